/- Refs that come in: their size is told, they are copied, two lists are compared. Outs that come in: their size is told, they are copied, two lists are compared. Outs and transactions that come in are copied into new memory. Lists of outs that come in are copied into new memory. Transactions that come in: two are compared, their size is told, they are copied. Transactions that come in are copied into new memory. Coins that come in: their size is told, they are copied into new memory, two lists are compared. Lists of coins that come in are copied into new memory; two lists are compared. Coins of the call's own: their row and their keys' rows; marks are written into them, and read back. The specification's faults of refs and outs. The specification's fault of a transaction. The specification's fault of coins. -/
import Derived.Test.YtjgilpkkfpbefaaGreatDoorJn1
import Derived.OneCell
namespace Go.Proofs.YtjgilpkkfpbefaaGreatDoor
open Go.RowKit Go.Maps

theorem Tryz.infoRef : (Tryz.prog.info? 81).map (fun i => (i.zero, i.size, i.bytes)) = some (some (.agg #[.int .i64 0, .int .i64 0]), 2, 16) := by kernel_rfl

theorem szRf_any (a : Option Addr) (n cap : Nat) (left : Int) (w : World) (h0 : 0 ≤ left) (h1 : left ≤ 1048576) (hl : n ≤ maxLen) :
    Calls Tryz.prog 19 #[.slice a n cap, .int .i64 left] w fun e w' => ∃ r : Int, e = .returned (.int .i64 r) ∧ w' = w ∧ SzG n left r := by
  unfold maxLen at hl
  by_cases hn : left < n
  · go_enter Tryz.func19, Tryz.ntmps19
    go_wp2
    go_ret
    exact ⟨_, rfl, rfl, Or.inl rfl⟩
  · go_enter Tryz.func19, Tryz.ntmps19
    go_wp2
    go_ret
    exact ⟨_, rfl, rfl, Or.inr ⟨by omega, by omega, by omega⟩⟩

theorem toRef_any (a b : Int) (w : World) : Calls Tryz.prog 58 #[.agg #[.int .i64 a, .int .i64 b]] w fun e w' => e = .returned (.agg #[.int .i64 a, .int .i64 b]) ∧ Below w.heap.size w w' := by
  go_enter Tryz.func58, Tryz.ntmps58
  go_wp2
  refine bodyPost_ret (v := .agg #[.int .i64 a, .int .i64 b]) (by simp [results, Tryz.results58, go_sem]) rfl ⟨rfl, ?_⟩
  exact (((Below.refl _ _).alloc (Nat.le_refl _) _).alloc (by simp) _).alloc (by simp; omega) _

/-- What a round of the refs' copy leaves. -/
theorem toRf_round {wr w2 : World} {B n k : Nat} {gs : List (Int × Int)} {g1 g2 : Int} (hg : (g1, g2) = gs.getD k G0) (hlt : k < n)
    (h : ∃ xs, wr.ownsRow B 81 2 (.slice (some ⟨B, 0, none⟩) n n) n xs ∧ ∀ j, j < k → xs[j * 2]? = some (.int .i64 (gs.getD j G0).1) ∧ xs[j * 2 + 1]? = some (.int .i64 (gs.getD j G0).2)) (hb : Below wr.heap.size wr w2) :
    ∃ u0 u1, w2.cell? ⟨B, k * 2, none⟩ = some u0 ∧ w2.cell? ⟨B, k * 2 + 1, none⟩ = some u1 ∧ w2.frozen? ⟨B, k * 2, none⟩ = false ∧ w2.frozen? ⟨B, k * 2 + 1, none⟩ = false ∧
      Hid (∃ xs, ((w2.setCell ⟨B, k * 2, none⟩ (.int .i64 g1)).setCell ⟨B, k * 2 + 1, none⟩ (.int .i64 g2)).ownsRow B 81 2 (.slice (some ⟨B, 0, none⟩) n n) n xs ∧ ∀ j, j < k + 1 → xs[j * 2]? = some (.int .i64 (gs.getD j G0).1) ∧ xs[j * 2 + 1]? = some (.int .i64 (gs.getD j G0).2)) := by
  obtain ⟨xs, hown0, hxs⟩ := h
  have hown := hown0.kept (w' := w2) (row := none) ⟨hb.os, hb.tape, hb.output, hb.size, fun k hk _ => hb.block k hk⟩ (by simp [Value.ownBlock])
  have hxl := hown.1
  have r1 := (hown.stored (k * 2) (.int .i64 g1)).1
  have r2 := (r1.stored (k * 2 + 1) (.int .i64 g2)).1
  refine ⟨_, _, (hown.cellAt (k * 2) (by omega)).trans (List.getElem?_eq_getElem (by omega)), (hown.cellAt (k * 2 + 1) (by omega)).trans (List.getElem?_eq_getElem (by omega)), hown.frozenAt _, hown.frozenAt _, _, r2, fun j hj => ?_⟩
  by_cases e : k = j
  · subst e
    rw [← hg]
    constructor
    · rw [List.getElem?_set_ne (by omega), List.getElem?_set_self (by omega)]
    · rw [List.getElem?_set_self (by simp; omega)]
  · have := hxs j (by omega)
    constructor
    · rw [List.getElem?_set_ne (by omega), List.getElem?_set_ne (by omega)]; exact this.1
    · rw [List.getElem?_set_ne (by omega), List.getElem?_set_ne (by omega)]; exact this.2

set_option maxHeartbeats 400000 in
theorem toRf_any (a : Option Addr) (n cap : Nat) (gs : List (Int × Int)) (w : World) (hl : n ≤ 1048576) (hs : GAt w a n gs) :
    Calls Tryz.prog 31 #[.slice a n cap] w fun e w' => ∃ g c, e = .returned (.slice (some ⟨g, 0, none⟩) n c) ∧ w'.ownsRow w.heap.size 81 2 (.slice (some ⟨g, 0, none⟩) n c) n (gcells gs) ∧ Below w.heap.size w w' := by
  have HN : Hid (gs.length = n) := hs.1
  have HSS : Hid (GAt w a n gs) := hs
  clear hs
  obtain ⟨i0, hi, hz0, hz1, hz2⟩ := info_parts Tryz.infoRef
  have hml : n ≤ maxLen := by unfold maxLen; omega
  go_enter Tryz.func31, Tryz.ntmps31
  go_wp2_with (first | (at_make; refine wpList_make_full _ rfl _ _ 43 rfl w.heap.size 81 i0 (.agg #[.int .i64 0, .int .i64 0]) 2 Tryz.underlying43 hi hz0 hz1 _ _ _ _ n rfl rfl (by omega) (by omega) (by rw [hz2]; omega) hml (Nat.le_refl _) ?_; intro w1 ho1 hg1))
  have hb1 : Below w.heap.size w w1 := (Below.refl _ _).grown hg1 (Nat.le_refl _) (fun k h => by cases h)
  go_loopw [4] (fun i wr => ∃ k : Nat, k ≤ n ∧ i = .int .i64 k ∧ Below w.heap.size w wr ∧ Hid (∃ xs, wr.ownsRow w.heap.size 81 2 (.slice (some ⟨w.heap.size, 0, none⟩) n n) n xs ∧ ∀ j, j < k → xs[j * 2]? = some (.int .i64 (gs.getD j G0).1) ∧ xs[j * 2 + 1]? = some (.int .i64 (gs.getD j G0).2))) (fun i _ => n - (intOf i).toNat)
  case atStart => exact ⟨0, Nat.zero_le _, rfl, hb1, _, ho1, fun j hj => by omega⟩
  case round =>
    obtain ⟨k, hk, rfl, hbel, HX⟩ := hrel
    clear ho1 hg1 hb1
    by_cases hlt : k < n
    · rcases HSS.out.2 with h0 | ⟨b, off, ha, hb, hc⟩
      · omega
      subst ha
      obtain ⟨g, hg⟩ : ∃ g, g = gs.getD k G0 := ⟨_, rfl⟩
      have hcx := hc k hlt
      rw [← hg] at hcx
      obtain ⟨g1, g2⟩ := g
      have c0 := (hbel.cell (p := ⟨b, off + k * 2, none⟩) hb).trans hcx.1
      have c1 := (hbel.cell (p := ⟨b, off + k * 2 + 1, none⟩) hb).trans hcx.2
      have HG : Hid ((g1, g2) = gs.getD k G0) := hg
      clear hg hc hcx
      go_wp2_with (first | (go_at_call 58; refine (toRef_any _ _ _).mono ?_; rintro e w2 ⟨rfl, hb2⟩; obtain ⟨u0, u1, cg0, cg1, fg0, fg1, HX2⟩ := toRf_round HG.out hlt HX.out hb2))
      go_roundw
      case rel => exact ⟨k + 1, by omega, by go_num, ((hbel.trans (hb2.mono hbel.size)).setCell (Nat.le_refl _) _).setCell (Nat.le_refl _) _, HX2⟩
      case measure => simp [intOf]; omega
    · go_wp2
      go_ret
      obtain ⟨xs, hown, hxs⟩ := HX.out
      refine ⟨_, _, rfl, ?_, hbel⟩
      rw [← all_signs HN.out hown.1 (fun j hj => hxs j (by omega))]
      exact hown

theorem eqRef_any (a b : Int) (w : World) : Calls Tryz.prog 70 #[.agg #[.int .i64 a, .int .i64 b], .agg #[.int .i64 a, .int .i64 b]] w fun e w' => e = .returned (.bool true) ∧ Below w.heap.size w w' := by
  go_enter Tryz.func70, Tryz.ntmps70
  go_wp2
  go_ret
  exact ⟨rfl, ((Below.refl _ _).alloc (Nat.le_refl _) _).alloc (by simp) _⟩

set_option maxHeartbeats 400000 in
theorem eqRf_any (a b : Option Addr) (n c1 c2 : Nat) (gs : List (Int × Int)) (w : World) (hl : n ≤ 1048576) (ha : GAt w a n gs) (hb : GAt w b n gs) :
    Calls Tryz.prog 39 #[.slice a n c1, .slice b n c2] w fun e w' => e = .returned (.bool true) ∧ Below w.heap.size w w' := by
  have HA : Hid (GAt w a n gs) := ha
  have HB : Hid (GAt w b n gs) := hb
  clear ha hb
  go_enter Tryz.func39, Tryz.ntmps39
  go_wp2
  go_loopw [5] (fun i wr => ∃ k : Nat, k ≤ n ∧ i = .int .i64 k ∧ Below w.heap.size w wr) (fun i _ => n - (intOf i).toNat)
  case atStart => exact ⟨0, Nat.zero_le _, rfl, Below.refl _ _⟩
  case round =>
    obtain ⟨k, hk, rfl, hbel⟩ := hrel
    by_cases hlt : k < n
    · rcases HA.out.2 with h0 | ⟨b0, o0, e0, l0, d0⟩
      · omega
      subst e0
      rcases HB.out.2 with h0 | ⟨b1, o1, e1, l1, d1⟩
      · omega
      subst e1
      obtain ⟨g, hg⟩ : ∃ g, g = gs.getD k G0 := ⟨_, rfl⟩
      have y0 := d0 k hlt
      have y1 := d1 k hlt
      rw [← hg] at y0 y1
      obtain ⟨g1, g2⟩ := g
      have x0 := (hbel.cell (p := ⟨b0, o0 + k * 2, none⟩) l0).trans y0.1
      have x1 := (hbel.cell (p := ⟨b0, o0 + k * 2 + 1, none⟩) l0).trans y0.2
      have x2 := (hbel.cell (p := ⟨b1, o1 + k * 2, none⟩) l1).trans y1.1
      have x3 := (hbel.cell (p := ⟨b1, o1 + k * 2 + 1, none⟩) l1).trans y1.2
      clear hg d0 d1 y0 y1
      have hki : (k : Int) < (n : Int) := by omega
      have hw0 : b0 < wr.heap.size := Nat.lt_of_lt_of_le l0 hbel.size
      have hw1 : b1 < wr.heap.size := Nat.lt_of_lt_of_le l1 hbel.size
      have hcall : ∀ j, Calls Tryz.prog 70 #[.agg #[.int .i64 g1, .int .i64 g2], .agg #[.int .i64 g1, .int .i64 g2]] (wr.drewN j) fun e w' => e = .returned (.bool true) ∧ Below wr.heap.size wr w' := fun j => (eqRef_any g1 g2 _).mono fun e w' h => ⟨h.1, (Joins.below_draws _ wr j).trans h.2⟩
      go_wp2
      go_region_held3 (fun w' => w'.cell? ⟨b0, o0 + k * 2, none⟩ = some (.int .i64 g1) ∧ w'.cell? ⟨b0, o0 + k * 2 + 1, none⟩ = some (.int .i64 g2) ∧ w'.cell? ⟨b1, o1 + k * 2, none⟩ = some (.int .i64 g1) ∧ w'.cell? ⟨b1, o1 + k * 2 + 1, none⟩ = some (.int .i64 g2)) (go_keep)
        (first | (go_at_call 70; refine (hcall 1).mono ?_; rintro e w3 ⟨rfl, hb3⟩; have z0 := (hb3.cell (p := ⟨b0, o0 + k * 2, none⟩) hw0).trans x0; have z1 := (hb3.cell (p := ⟨b0, o0 + k * 2 + 1, none⟩) hw0).trans x1; have z2 := (hb3.cell (p := ⟨b1, o1 + k * 2, none⟩) hw1).trans x2; have z3 := (hb3.cell (p := ⟨b1, o1 + k * 2 + 1, none⟩) hw1).trans x3))
      go_wp2
      go_roundw
      case rel => exact ⟨k + 1, by omega, by go_num, hbel.trans (hb3.mono hbel.size)⟩
      case measure => simp [intOf]; omega
    · go_wp2
      go_ret
      exact ⟨rfl, hbel⟩

end Go.Proofs.YtjgilpkkfpbefaaGreatDoor

namespace Go.Proofs.YtjgilpkkfpbefaaGreatDoor
open Go.RowKit Go.Maps

structure Ou where
  v : Int
  l : List Int
  x : Int
  y : Int
def O0 : Ou := ⟨0, [], 0, 0⟩

/-- What a slice of outs leads to: four cells each, the keys behind the second. -/
def OAt (w : World) (a : Option Addr) (n : Nat) (os : List Ou) : Prop :=
  os.length = n ∧ (n = 0 ∨ ∃ b off, a = some ⟨b, off, none⟩ ∧ b < w.heap.size ∧ ∀ j, j < n → ∃ ka kn kc, w.cell? ⟨b, off + j * 4, none⟩ = some (.int .i64 (os.getD j O0).v) ∧ w.cell? ⟨b, off + j * 4 + 1, none⟩ = some (.slice ka kn kc) ∧
    w.cell? ⟨b, off + j * 4 + 2, none⟩ = some (.int .i64 (os.getD j O0).x) ∧ w.cell? ⟨b, off + j * 4 + 3, none⟩ = some (.int .i64 (os.getD j O0).y) ∧ kn ≤ maxLen ∧ IAt w ka kn (os.getD j O0).l)

theorem OAt.below {w w' : World} {a : Option Addr} {n : Nat} {os : List Ou} (h : OAt w a n os) {B : Nat} (hb : Below B w w') (hB : w.heap.size ≤ B) : OAt w' a n os := by
  obtain ⟨hn, h | ⟨b, off, rfl, hlt, hc⟩⟩ := h
  · exact ⟨hn, .inl h⟩
  · refine ⟨hn, .inr ⟨b, off, rfl, Nat.lt_of_lt_of_le hlt hb.size, fun j hj => ?_⟩⟩
    obtain ⟨ka, kn, kc, h0, h1, h2, h3, h4, h5⟩ := hc j hj
    have hl := Nat.lt_of_lt_of_le hlt hB
    exact ⟨ka, kn, kc, (hb.cell (p := ⟨b, off + j * 4, none⟩) hl).trans h0, (hb.cell (p := ⟨b, off + j * 4 + 1, none⟩) hl).trans h1, (hb.cell (p := ⟨b, off + j * 4 + 2, none⟩) hl).trans h2, (hb.cell (p := ⟨b, off + j * 4 + 3, none⟩) hl).trans h3, h4, h5.below hb hB⟩

def SzO (n : Nat) (os : List Ou) (left r : Int) : Prop := r = -1 ∨ 0 ≤ r ∧ r ≤ left ∧ (n : Int) ≤ left ∧ ∀ j, j < n → ((os.getD j O0).l.length : Int) ≤ left

theorem szOut_any (v : Int) (a : Option Addr) (n cap : Nat) (x y left : Int) (w : World) (h0 : 0 ≤ left) (h1 : left ≤ 1048576) (hl : n ≤ maxLen) :
    Calls Tryz.prog 41 #[.agg #[.int .i64 v, .slice a n cap, .int .i64 x, .int .i64 y], .int .i64 left] w fun e w' => ∃ r : Int, e = .returned (.int .i64 r) ∧ SzG n left r ∧ Below w.heap.size w w' := by
  have hbx : Below w.heap.size w (w.alloc (.cells #[.int .i64 v, .slice a n cap, .int .i64 x, .int .i64 y] 62)) := below_box _
  have hS := szRu_any a n cap x y left (w.alloc (.cells #[.int .i64 v, .slice a n cap, .int .i64 x, .int .i64 y] 62)) h0 h1 hl
  go_enter Tryz.func41, Tryz.ntmps41
  go_wp2_with (first
    | (go_at_call 72; refine hS.mono ?_; rintro e w2 ⟨r, rfl, hr, hb2⟩; have HB : Hid (Below w.heap.size w w2) := hbx.trans (hb2.mono (by simp)); clear hb2))
  · go_ret
    exact ⟨_, rfl, Or.inl rfl, HB.out⟩
  · go_ret
    exact ⟨_, rfl, hr, HB.out⟩

set_option maxHeartbeats 400000 in
theorem szOs_any (a : Option Addr) (n cap : Nat) (os : List Ou) (left : Int) (w : World) (h0 : 0 ≤ left) (h1 : left ≤ 1048576) (hl : n ≤ maxLen) (hs : OAt w a n os) :
    Calls Tryz.prog 20 #[.slice a n cap, .int .i64 left] w fun e w' => ∃ r : Int, e = .returned (.int .i64 r) ∧ SzO n os left r ∧ Below w.heap.size w w' := by
  have hl' := hl
  unfold maxLen at hl
  have HO : Hid (OAt w a n os) := hs
  clear hs
  by_cases hn : left < n
  · go_enter Tryz.func20, Tryz.ntmps20
    go_wp2
    go_ret
    exact ⟨_, rfl, Or.inl rfl, Below.refl _ _⟩
  · go_enter Tryz.func20, Tryz.ntmps20
    go_wp2
    go_loopw [1, 5] (fun v i wr => ∃ k : Nat, k ≤ n ∧ i = .int .i64 k ∧ ∃ q : Int, v = .int .i64 q ∧ 0 ≤ q ∧ q ≤ left - n ∧ Hid (∀ j, j < k → ((os.getD j O0).l.length : Int) ≤ left) ∧ Below w.heap.size w wr) (fun _ i _ => n - (intOf i).toNat)
    case atStart => exact ⟨0, Nat.zero_le _, rfl, _, rfl, by omega, by omega, fun j hj => by omega, Below.refl _ _⟩
    case round =>
      obtain ⟨k, hk, rfl, q, rfl, hq0, hq1, HJ, hbel⟩ := hrel
      by_cases hlt : k < n
      · rcases HO.out.2 with h00 | ⟨b, off, e0, l0, d0⟩
        · omega
        subst e0
        obtain ⟨o, ho⟩ : ∃ o, o = os.getD k O0 := ⟨_, rfl⟩
        obtain ⟨ka, kn, kc, c0, c1, c2, c3, c4, c5⟩ := d0 k hlt
        rw [← ho] at c0 c2 c3 c5
        have x0 := (hbel.cell (p := ⟨b, off + k * 4, none⟩) l0).trans c0
        have x1 := (hbel.cell (p := ⟨b, off + k * 4 + 1, none⟩) l0).trans c1
        have x2 := (hbel.cell (p := ⟨b, off + k * 4 + 2, none⟩) l0).trans c2
        have x3 := (hbel.cell (p := ⟨b, off + k * 4 + 3, none⟩) l0).trans c3
        have HLEN : Hid (o.l.length = kn) := c5.1
        have HS : Hid (o = os.getD k O0) := ho
        obtain ⟨ov, ol, ox, oy⟩ := o
        have hsz := szOut_any ov ka kn kc ox oy q wr hq0 (by omega) c4
        clear c0 c1 c2 c3 c5 ho d0
        have hki : (k : Int) < (n : Int) := by omega
        go_wp2_with (go_at_call 41; refine hsz.mono ?_; clear hsz; rintro e w2 ⟨r, rfl, hr, hb2⟩)
        · go_ret
          exact ⟨_, rfl, Or.inl rfl, hbel.trans (hb2.mono hbel.size)⟩
        · have hr0 : 0 ≤ r := by assumption
          rcases hr with e | ⟨_, hr1, hr2⟩
          · omega
          go_roundw
          case rel =>
            refine ⟨k + 1, by omega, by go_num, _, rfl, hr0, by omega, fun j hj => ?_, hbel.trans (hb2.mono hbel.size)⟩
            by_cases e : j = k
            · subst e
              rw [← HS.out]
              have : ol.length = kn := HLEN.out
              show (ol.length : Int) ≤ left
              omega
            · exact HJ.out j (by omega)
          case measure => simp [intOf]; omega
      · go_wp2
        go_ret
        exact ⟨_, rfl, Or.inr ⟨hq0, by omega, by omega, fun j h => HJ.out j (by omega)⟩, hbel⟩

end Go.Proofs.YtjgilpkkfpbefaaGreatDoor

namespace Go.Proofs.YtjgilpkkfpbefaaGreatDoor
open Go.RowKit Go.Maps Go.WideMaps

theorem Tryz.infoOut : (Tryz.prog.info? 84).map (fun i => (i.zero, i.size, i.bytes)) = some (some (.agg #[.int .i64 0, .slice none 0 0, .int .i64 0, .int .i64 0]), 4, 48) := by kernel_rfl

theorem res4 {w w2 : World} {b B : Nat} {c0 c1 c2 c3 : Value} {t : TypeId} (h : w.heap[b]? = some (.cells #[c0, c1, c2, c3] t (0, 0))) (hb : Below B w w2) (hB : b < B) :
    (w2.cell? ⟨b, 0, none⟩ = some c0 ∧ w2.cell? ⟨b, 1, none⟩ = some c1 ∧ w2.cell? ⟨b, 2, none⟩ = some c2 ∧ w2.cell? ⟨b, 3, none⟩ = some c3 ∧ w2.frozen? ⟨b, 0, none⟩ = false ∧ w2.frozen? ⟨b, 1, none⟩ = false ∧ w2.frozen? ⟨b, 2, none⟩ = false ∧ w2.frozen? ⟨b, 3, none⟩ = false) ∧ Hid (w2.heap[b]? = some (.cells #[c0, c1, c2, c3] t (0, 0))) := by
  have h2 := (hb.block b hB).trans h
  exact ⟨cells4 h2, h2⟩

/-- An out's copy: its keys lie in new memory. -/
def OutOu (w w' : World) (e : Ending) (v : Int) (n : Nat) (l : List Int) (x y : Int) : Prop :=
  ∃ g c, e = .returned (.agg #[.int .i64 v, .slice (some ⟨g, 0, none⟩) n c, .int .i64 x, .int .i64 y]) ∧ w'.ownsRow w.heap.size 2 1 (.slice (some ⟨g, 0, none⟩) n c) n (ints l) ∧ Below w.heap.size w w'

set_option maxHeartbeats 1000000 in
theorem toOut_any (v : Int) (a : Option Addr) (n cap : Nat) (l : List Int) (x y : Int) (w : World) (hl : n ≤ 1048576) (h : IAt w a n l) :
    Calls Tryz.prog 59 #[.agg #[.int .i64 v, .slice a n cap, .int .i64 x, .int .i64 y]] w fun e w' => OutOu w w' e v n l x y := by
  obtain ⟨t0, t1, t2, t3⟩ := three_blocks w (.cells #[.int .i64 v, .slice a n cap, .int .i64 x, .int .i64 y] 62) (.cells #[.int .i64 0, .slice none 0 0, .int .i64 0, .int .i64 0] 84) (.cells #[.int .i64 v, .slice none 0 0, .int .i64 0, .int .i64 0] 84)
  have hbs : Below w.heap.size w (((w.alloc (.cells #[.int .i64 v, .slice a n cap, .int .i64 x, .int .i64 y] 62)).alloc (.cells #[.int .i64 0, .slice none 0 0, .int .i64 0, .int .i64 0] 84)).alloc (.cells #[.int .i64 v, .slice none 0 0, .int .i64 0, .int .i64 0] 84)) := below_box3 _ _ _
  have hS := toRu_any a n cap l x y (((w.alloc (.cells #[.int .i64 v, .slice a n cap, .int .i64 x, .int .i64 y] 62)).alloc (.cells #[.int .i64 0, .slice none 0 0, .int .i64 0, .int .i64 0] 84)).alloc (.cells #[.int .i64 v, .slice none 0 0, .int .i64 0, .int .i64 0] 84)) hl (h.below hbs (Nat.le_refl _))
  have U1 := show Hid ((((w.alloc (.cells #[.int .i64 v, .slice a n cap, .int .i64 x, .int .i64 y] 62)).alloc (.cells #[.int .i64 0, .slice none 0 0, .int .i64 0, .int .i64 0] 84)).alloc (.cells #[.int .i64 v, .slice none 0 0, .int .i64 0, .int .i64 0] 84)).heap[w.heap.size + 1]? = some (.cells #[.int .i64 0, .slice none 0 0, .int .i64 0, .int .i64 0] 84 (0, 0))) from t1
  have U2 := show Hid ((((w.alloc (.cells #[.int .i64 v, .slice a n cap, .int .i64 x, .int .i64 y] 62)).alloc (.cells #[.int .i64 0, .slice none 0 0, .int .i64 0, .int .i64 0] 84)).alloc (.cells #[.int .i64 v, .slice none 0 0, .int .i64 0, .int .i64 0] 84)).heap[w.heap.size + 1 + 1]? = some (.cells #[.int .i64 v, .slice none 0 0, .int .i64 0, .int .i64 0] 84 (0, 0))) from t2
  have HBS : Hid (Below w.heap.size w (((w.alloc (.cells #[.int .i64 v, .slice a n cap, .int .i64 x, .int .i64 y] 62)).alloc (.cells #[.int .i64 0, .slice none 0 0, .int .i64 0, .int .i64 0] 84)).alloc (.cells #[.int .i64 v, .slice none 0 0, .int .i64 0, .int .i64 0] 84))) := hbs
  have HSZ : Hid ((((w.alloc (.cells #[.int .i64 v, .slice a n cap, .int .i64 x, .int .i64 y] 62)).alloc (.cells #[.int .i64 0, .slice none 0 0, .int .i64 0, .int .i64 0] 84)).alloc (.cells #[.int .i64 v, .slice none 0 0, .int .i64 0, .int .i64 0] 84)).heap.size = w.heap.size + 1 + 1 + 1) := t3
  obtain ⟨s0, s1, s2, s3, _⟩ := cells4 t0
  clear t0 t1 t2 t3 hbs h
  go_enter Tryz.func59, Tryz.ntmps59
  go_wp2_with (first
    | (go_at_call 78; refine hS.mono ?_; rintro e w2 ⟨g0, k0, rfl, ho0, hb2⟩; rw [HSZ.out] at ho0 hb2; obtain ⟨⟨r0, r1, r2, r3, r4, r5, r6, r7⟩, HR⟩ := res4 U1.out hb2 (by omega); obtain ⟨⟨o0, o1, o2, o3, o4, o5, o6, o7⟩, HO⟩ := res4 U2.out hb2 (by omega); have HROW : Hid (w2.ownsRow (w.heap.size + 1 + 1 + 1) 2 1 (.slice (some ⟨g0, 0, none⟩) n k0) n (ints l)) := ho0; have HBW : Hid (Below w.heap.size w w2) := HBS.out.trans (hb2.mono (by omega)); clear ho0 hb2))
  have hR3 : (((w2.setCell ⟨w.heap.size + 1 + 1, 1, none⟩ (.slice (some ⟨g0, 0, none⟩) n k0)).setCell ⟨w.heap.size + 1 + 1, 2, none⟩ (.int .i64 x)).setCell ⟨w.heap.size + 1 + 1, 3, none⟩ (.int .i64 y)).heap[w.heap.size + 1]? = some (.cells #[.int .i64 0, .slice none 0 0, .int .i64 0, .int .i64 0] 84 (0, 0)) :=
    (Below.heap_setCell _ ⟨w.heap.size + 1 + 1, 3, none⟩ _ (w.heap.size + 1) (show w.heap.size + 1 ≠ w.heap.size + 1 + 1 by omega)).trans ((Below.heap_setCell _ ⟨w.heap.size + 1 + 1, 2, none⟩ _ (w.heap.size + 1) (show w.heap.size + 1 ≠ w.heap.size + 1 + 1 by omega)).trans ((Below.heap_setCell _ ⟨w.heap.size + 1 + 1, 1, none⟩ _ (w.heap.size + 1) (show w.heap.size + 1 ≠ w.heap.size + 1 + 1 by omega)).trans HR.out))
  obtain ⟨j0, j1, j2, j3⟩ := four_set hR3 (.int .i64 v) (.slice (some ⟨g0, 0, none⟩) n k0) (.int .i64 x) (.int .i64 y)
  refine bodyPost_ret (v := .agg #[.int .i64 v, .slice (some ⟨g0, 0, none⟩) n k0, .int .i64 x, .int .i64 y]) (by simp [results, Tryz.results59, go_sem, j0, j1, j2, j3]) rfl ⟨g0, k0, rfl, ?_, ?_⟩
  · exact row_res4 (ownsRow_setCell_below (ownsRow_setCell_below (ownsRow_setCell_below HROW.out (a := ⟨w.heap.size + 1 + 1, 1, none⟩) (show w.heap.size + 1 + 1 < _ by omega) _) (a := ⟨w.heap.size + 1 + 1, 2, none⟩) (show w.heap.size + 1 + 1 < _ by omega) _) (a := ⟨w.heap.size + 1 + 1, 3, none⟩) (show w.heap.size + 1 + 1 < _ by omega) _) (by omega) (by omega) _ _ _ _
  · exact below_res4 (((HBW.out.setCell (p := ⟨w.heap.size + 1 + 1, 1, none⟩) (show w.heap.size ≤ w.heap.size + 1 + 1 by omega) _).setCell (p := ⟨w.heap.size + 1 + 1, 2, none⟩) (show w.heap.size ≤ w.heap.size + 1 + 1 by omega) _).setCell (p := ⟨w.heap.size + 1 + 1, 3, none⟩) (show w.heap.size ≤ w.heap.size + 1 + 1 by omega) _) _ _ _ _

end Go.Proofs.YtjgilpkkfpbefaaGreatDoor

namespace Go.Proofs.YtjgilpkkfpbefaaGreatDoor
open Go.RowKit Go.Maps Go.WideMaps

theorem IAt.setOther {v : World} {g n B i : Nat} {l : List Int} (h : IAt v (some ⟨g, 0, none⟩) n l) (hne : g ≠ B) (u : Value) : IAt (v.setCell ⟨B, i, none⟩ u) (some ⟨g, 0, none⟩) n l := by
  obtain ⟨hn, h | ⟨b, off, e, hlt, hc⟩⟩ := h
  · exact ⟨hn, .inl h⟩
  · cases e
    exact ⟨hn, .inr ⟨g, 0, rfl, by simpa using hlt, fun j hj => (World.cell?_of_block (Below.heap_setCell _ ⟨B, i, none⟩ u g hne)).trans (hc j hj)⟩⟩

end Go.Proofs.YtjgilpkkfpbefaaGreatDoor

namespace Go.Proofs.YtjgilpkkfpbefaaGreatDoor
open Go.RowKit Go.Maps Go.WideMaps

set_option maxHeartbeats 400000 in
theorem eqOut_any (v : Int) (a b : Option Addr) (n c1 c2 : Nat) (l : List Int) (x y : Int) (w : World) (hl : n ≤ 1048576) (ha : IAt w a n l) (hb : IAt w b n l) :
    Calls Tryz.prog 71 #[.agg #[.int .i64 v, .slice a n c1, .int .i64 x, .int .i64 y], .agg #[.int .i64 v, .slice b n c2, .int .i64 x, .int .i64 y]] w fun e w' => e = .returned (.bool true) ∧ Below w.heap.size w w' := by
  have hbx : Below w.heap.size w ((w.alloc (.cells #[.int .i64 v, .slice a n c1, .int .i64 x, .int .i64 y] 84)).alloc (.cells #[.int .i64 v, .slice b n c2, .int .i64 x, .int .i64 y] 84)) := below_box2 _ _
  have hS := eqRu_any a b n c1 c2 l x y _ hl (ha.below hbx (Nat.le_refl _)) (hb.below hbx (Nat.le_refl _))
  have HBX : Hid (Below w.heap.size w ((w.alloc (.cells #[.int .i64 v, .slice a n c1, .int .i64 x, .int .i64 y] 84)).alloc (.cells #[.int .i64 v, .slice b n c2, .int .i64 x, .int .i64 y] 84))) := hbx
  clear hbx ha hb
  go_enter Tryz.func71, Tryz.ntmps71
  go_wp2_with (first
    | (go_at_call 100; refine hS.mono ?_; rintro e w2 ⟨rfl, hb2⟩; have HBW : Hid (Below w.heap.size w w2) := HBX.out.trans (hb2.mono (by simp; omega)); clear hb2))
  go_ret
  exact ⟨rfl, HBW.out⟩

set_option maxHeartbeats 1000000 in
theorem eqOs_any (a b : Option Addr) (n c1 c2 : Nat) (os : List Ou) (w : World) (hl : n ≤ 1048576) (hk : ∀ j, j < n → (os.getD j O0).l.length ≤ 1048576) (ha : OAt w a n os) (hb : OAt w b n os) :
    Calls Tryz.prog 40 #[.slice a n c1, .slice b n c2] w fun e w' => e = .returned (.bool true) ∧ Below w.heap.size w w' := by
  have HA : Hid (OAt w a n os) := ha
  have HB : Hid (OAt w b n os) := hb
  have HKL : Hid (∀ j, j < n → (os.getD j O0).l.length ≤ 1048576) := hk
  clear ha hb hk
  go_enter Tryz.func40, Tryz.ntmps40
  go_wp2
  go_loopw [5] (fun i wr => ∃ k : Nat, k ≤ n ∧ i = .int .i64 k ∧ Below w.heap.size w wr) (fun i _ => n - (intOf i).toNat)
  case atStart => exact ⟨0, Nat.zero_le _, rfl, Below.refl _ _⟩
  case round =>
    obtain ⟨k, hk, rfl, hbel⟩ := hrel
    by_cases hlt : k < n
    · rcases HA.out.2 with h0 | ⟨b0, o0, e0, l0, d0⟩
      · omega
      subst e0
      rcases HB.out.2 with h0 | ⟨b1, o1, e1, l1, d1⟩
      · omega
      subst e1
      obtain ⟨o, ho⟩ : ∃ o, o = os.getD k O0 := ⟨_, rfl⟩
      obtain ⟨ka, kn, kc, p0, p1, p2, p3, p4, p5⟩ := d0 k hlt
      obtain ⟨ja, jn, jc, q0, q1, q2, q3, q4, q5⟩ := d1 k hlt
      have hol := HKL.out k hlt
      rw [← ho] at p0 p2 p3 p5 q0 q2 q3 q5 hol
      obtain ⟨ov, ol, ox, oy⟩ := o
      obtain rfl := p5.1
      obtain rfl := q5.1
      simp only at p0 p1 p2 p3 q0 q1 q2 q3 hol p5 q5
      have x0 := (hbel.cell (p := ⟨b0, o0 + k * 4, none⟩) l0).trans p0
      have x1 := (hbel.cell (p := ⟨b0, o0 + k * 4 + 1, none⟩) l0).trans p1
      have x2 := (hbel.cell (p := ⟨b0, o0 + k * 4 + 2, none⟩) l0).trans p2
      have x3 := (hbel.cell (p := ⟨b0, o0 + k * 4 + 3, none⟩) l0).trans p3
      have y0 := (hbel.cell (p := ⟨b1, o1 + k * 4, none⟩) l1).trans q0
      have y1 := (hbel.cell (p := ⟨b1, o1 + k * 4 + 1, none⟩) l1).trans q1
      have y2 := (hbel.cell (p := ⟨b1, o1 + k * 4 + 2, none⟩) l1).trans q2
      have y3 := (hbel.cell (p := ⟨b1, o1 + k * 4 + 3, none⟩) l1).trans q3
      have hki : (k : Int) < (n : Int) := by omega
      have hw0 : b0 < wr.heap.size := Nat.lt_of_lt_of_le l0 hbel.size
      have hw1 : b1 < wr.heap.size := Nat.lt_of_lt_of_le l1 hbel.size
      have hcall : Calls Tryz.prog 71 #[.agg #[.int .i64 ov, .slice ka ol.length kc, .int .i64 ox, .int .i64 oy], .agg #[.int .i64 ov, .slice ja ol.length jc, .int .i64 ox, .int .i64 oy]] wr.drew fun e w' => e = .returned (.bool true) ∧ Below wr.heap.size wr w' :=
        (eqOut_any ov ka ja ol.length kc jc ol ox oy _ hol ((p5.below hbel (Nat.le_refl _)).below (Below.refl _ _).drew (Nat.le_refl _)) ((q5.below hbel (Nat.le_refl _)).below (Below.refl _ _).drew (Nat.le_refl _))).mono fun e w' h => ⟨h.1, (Below.refl _ _).drew.trans h.2⟩
      clear ho d0 d1 p0 p1 p2 p3 p4 p5 q0 q1 q2 q3 q4 q5 hol
      go_wp2
      go_region_held3 (fun w' => (w'.cell? ⟨b0, o0 + k * 4, none⟩ = some (.int .i64 ov) ∧ w'.cell? ⟨b0, o0 + k * 4 + 1, none⟩ = some (.slice ka ol.length kc) ∧ w'.cell? ⟨b0, o0 + k * 4 + 2, none⟩ = some (.int .i64 ox) ∧ w'.cell? ⟨b0, o0 + k * 4 + 3, none⟩ = some (.int .i64 oy)) ∧ w'.cell? ⟨b1, o1 + k * 4, none⟩ = some (.int .i64 ov) ∧ w'.cell? ⟨b1, o1 + k * 4 + 1, none⟩ = some (.slice ja ol.length jc) ∧ w'.cell? ⟨b1, o1 + k * 4 + 2, none⟩ = some (.int .i64 ox) ∧ w'.cell? ⟨b1, o1 + k * 4 + 3, none⟩ = some (.int .i64 oy)) (go_keep)
        (first | (go_at_call 71; refine hcall.mono ?_; rintro e w3 ⟨rfl, hb3⟩; have z0 := (hb3.cell (p := ⟨b0, o0 + k * 4, none⟩) hw0).trans x0; have z1 := (hb3.cell (p := ⟨b0, o0 + k * 4 + 1, none⟩) hw0).trans x1; have z2 := (hb3.cell (p := ⟨b0, o0 + k * 4 + 2, none⟩) hw0).trans x2; have z3 := (hb3.cell (p := ⟨b0, o0 + k * 4 + 3, none⟩) hw0).trans x3; have z4 := (hb3.cell (p := ⟨b1, o1 + k * 4, none⟩) hw1).trans y0; have z5 := (hb3.cell (p := ⟨b1, o1 + k * 4 + 1, none⟩) hw1).trans y1; have z6 := (hb3.cell (p := ⟨b1, o1 + k * 4 + 2, none⟩) hw1).trans y2; have z7 := (hb3.cell (p := ⟨b1, o1 + k * 4 + 3, none⟩) hw1).trans y3))
      go_wp2
      go_roundw
      case rel => exact ⟨k + 1, by omega, by go_num, hbel.trans (hb3.mono hbel.size)⟩
      case measure => simp [intOf]; omega
    · go_wp2
      go_ret
      exact ⟨rfl, hbel⟩

/-- What is known of a transaction: its refs and its outs. -/
structure TxAt (w : World) (ia : Option Addr) (n : Nat) (oa : Option Addr) (m : Nat) (rs : List (Int × Int)) (os : List Ou) : Prop where
  r : GAt w ia n rs
  o : OAt w oa m os
theorem TxAt.below {w w' : World} {ia oa : Option Addr} {n m : Nat} {rs : List (Int × Int)} {os : List Ou} (h : TxAt w ia n oa m rs os) {B : Nat} (hb : Below B w w') (hB : w.heap.size ≤ B) : TxAt w' ia n oa m rs os := ⟨h.r.below hb hB, h.o.below hb hB⟩

set_option maxHeartbeats 400000 in
theorem eqTx_any (k f : Int) (ia ib oa ob : Option Addr) (n m c0 c1 d0 d1 : Nat) (rs : List (Int × Int)) (os : List Ou) (w : World) (hn : n ≤ 1048576) (hm : m ≤ 1048576) (hk : ∀ j, j < m → (os.getD j O0).l.length ≤ 1048576) (ha : TxAt w ia n oa m rs os) (hb : TxAt w ib n ob m rs os) :
    Calls Tryz.prog 15 #[.agg #[.int .i64 k, .int .i64 f, .slice ia n c0, .slice oa m d0], .agg #[.int .i64 k, .int .i64 f, .slice ib n c1, .slice ob m d1]] w fun e w' => e = .returned (.bool true) ∧ Below w.heap.size w w' := by
  have hbx : Below w.heap.size w ((w.alloc (.cells #[.int .i64 k, .int .i64 f, .slice ia n c0, .slice oa m d0] 46)).alloc (.cells #[.int .i64 k, .int .i64 f, .slice ib n c1, .slice ob m d1] 46)) := below_box2 _ _
  have hS := eqRf_any ia ib n c0 c1 rs _ hn (ha.r.below hbx (Nat.le_refl _)) (hb.r.below hbx (Nat.le_refl _))
  have T0 := show Hid (((w.alloc (.cells #[.int .i64 k, .int .i64 f, .slice ia n c0, .slice oa m d0] 46)).alloc (.cells #[.int .i64 k, .int .i64 f, .slice ib n c1, .slice ob m d1] 46)).heap[w.heap.size]? = some (.cells #[.int .i64 k, .int .i64 f, .slice ia n c0, .slice oa m d0] 46 (0, 0))) from block_at2
  have T1 := show Hid (((w.alloc (.cells #[.int .i64 k, .int .i64 f, .slice ia n c0, .slice oa m d0] 46)).alloc (.cells #[.int .i64 k, .int .i64 f, .slice ib n c1, .slice ob m d1] 46)).heap[w.heap.size + 1]? = some (.cells #[.int .i64 k, .int .i64 f, .slice ib n c1, .slice ob m d1] 46 (0, 0))) from heap_alloc_at _ _ _ (by simp)
  have HBX : Hid (Below w.heap.size w ((w.alloc (.cells #[.int .i64 k, .int .i64 f, .slice ia n c0, .slice oa m d0] 46)).alloc (.cells #[.int .i64 k, .int .i64 f, .slice ib n c1, .slice ob m d1] 46))) := hbx
  have HA : Hid (OAt w oa m os) := ha.o
  have HB : Hid (OAt w ob m os) := hb.o
  have HK : Hid (∀ j, j < m → (os.getD j O0).l.length ≤ 1048576) := hk
  clear hbx ha hb hk
  go_enter Tryz.func15, Tryz.ntmps15
  go_wp2_with (first
    | (go_at_call 39; refine hS.mono ?_; rintro e w2 ⟨rfl, hb2⟩; obtain ⟨⟨p0, p1, p2, p3, _⟩, _⟩ := res4 T0.out hb2 (by simp; omega); obtain ⟨⟨q0, q1, q2, q3, _⟩, _⟩ := res4 T1.out hb2 (by simp); have hbw : Below w.heap.size w w2 := HBX.out.trans (hb2.mono (by simp; omega)); have hO := eqOs_any oa ob m d0 d1 os w2 hm HK.out (HA.out.below hbw (Nat.le_refl _)) (HB.out.below hbw (Nat.le_refl _)); clear hb2)
    | (go_at_call 40; refine hO.mono ?_; rintro e w3 ⟨rfl, hb3⟩))
  go_ret
  exact ⟨rfl, hbw.trans (hb3.mono hbw.size)⟩

def SzT (n m : Nat) (os : List Ou) (left r : Int) : Prop := r = -1 ∨ 0 ≤ r ∧ r ≤ left ∧ (n : Int) ≤ left ∧ (m : Int) ≤ left ∧ ∀ j, j < m → ((os.getD j O0).l.length : Int) ≤ left

set_option maxHeartbeats 400000 in
theorem szTx_any (k f : Int) (ia oa : Option Addr) (n m c d : Nat) (os : List Ou) (left : Int) (w : World) (h0 : 0 ≤ left) (h1 : left ≤ 1048576) (hn : n ≤ maxLen) (hm : m ≤ maxLen) (h : OAt w oa m os) :
    Calls Tryz.prog 6 #[.agg #[.int .i64 k, .int .i64 f, .slice ia n c, .slice oa m d], .int .i64 left] w fun e w' => ∃ r : Int, e = .returned (.int .i64 r) ∧ SzT n m os left r ∧ Below w.heap.size w w' := by
  have hbx : Below w.heap.size w (w.alloc (.cells #[.int .i64 k, .int .i64 f, .slice ia n c, .slice oa m d] 30)) := below_box _
  have hS := szRf_any ia n c left (w.alloc (.cells #[.int .i64 k, .int .i64 f, .slice ia n c, .slice oa m d] 30)) h0 h1 hn
  have HO : Hid (OAt (w.alloc (.cells #[.int .i64 k, .int .i64 f, .slice ia n c, .slice oa m d] 30)) oa m os) := h.below hbx (Nat.le_refl _)
  have HBX : Hid (Below w.heap.size w (w.alloc (.cells #[.int .i64 k, .int .i64 f, .slice ia n c, .slice oa m d] 30))) := hbx
  clear h hbx
  go_enter Tryz.func6, Tryz.ntmps6
  go_wp2_with (first
    | (go_at_call 19; refine hS.mono ?_; rintro e w2 ⟨r, rfl, hw, hr⟩; have hw2 := hw.symm; subst hw2)
    | (go_at_call 20; rcases hr with hr | hr; (omega); refine (szOs_any oa m d os r _ hr.1 (by omega) hm HO.out).mono ?_; rintro e w3 ⟨r2, rfl, hr2, hb3⟩; have HB3 : Hid (Below w.heap.size w w3) := HBX.out.trans (hb3.mono (by simp)); clear hb3))
  · go_ret
    exact ⟨_, rfl, Or.inl rfl, HBX.out⟩
  · go_ret
    exact ⟨_, rfl, Or.inl rfl, HB3.out⟩
  · have h2 : 0 ≤ r2 := by assumption
    go_ret
    refine ⟨_, rfl, Or.inr ⟨h2, ?_⟩, HB3.out⟩
    rcases hr2 with e | ⟨_, e1, e2, e3⟩
    · omega
    · exact ⟨by omega, by omega, by omega, fun j hj => by have := e3 j hj; omega⟩

end Go.Proofs.YtjgilpkkfpbefaaGreatDoor

namespace Go.Proofs.YtjgilpkkfpbefaaGreatDoor
open Go.RowKit Go.Maps Go.WideMaps

/-- Three blocks of four cells: what came in, the result, the copy under way. -/
structure TxB3 (w v : World) (p0 p1 p2 p3 o0 o1 o2 o3 : Value) : Prop where
  p : v.heap[w.heap.size]? = some (.cells #[p0, p1, p2, p3] 30 (0, 0))
  r : v.heap[w.heap.size + 1]? = some (.cells #[.int .i64 0, .int .i64 0, .slice none 0 0, .slice none 0 0] 46 (0, 0))
  o : v.heap[w.heap.size + 1 + 1]? = some (.cells #[o0, o1, o2, o3] 46 (0, 0))
  bel : Below w.heap.size w v
section
variable {w v v' : World} {p0 p1 p2 p3 o0 o1 o2 o3 : Value}
theorem TxB3.step (h : TxB3 w v p0 p1 p2 p3 o0 o1 o2 o3) (hb : Below v.heap.size v v') : TxB3 w v' p0 p1 p2 p3 o0 o1 o2 o3 := ⟨(keepb h.p hb).out, (keepb h.r hb).out, (keepb h.o hb).out, h.bel.trans (hb.mono h.bel.size)⟩
theorem TxB3.set {i : Nat} {u q0 q1 q2 q3 : Value} (h : TxB3 w v p0 p1 p2 p3 o0 o1 o2 o3) (hq : (#[o0, o1, o2, o3] : Array Value).setIfInBounds i u = #[q0, q1, q2, q3]) : TxB3 w (v.setCell ⟨w.heap.size + 1 + 1, i, none⟩ u) p0 p1 p2 p3 q0 q1 q2 q3 := by
  refine ⟨(Below.heap_setCell _ ⟨w.heap.size + 1 + 1, i, none⟩ _ w.heap.size (show w.heap.size ≠ w.heap.size + 1 + 1 by omega)).trans h.p, (Below.heap_setCell _ ⟨w.heap.size + 1 + 1, i, none⟩ _ (w.heap.size + 1) (show w.heap.size + 1 ≠ w.heap.size + 1 + 1 by omega)).trans h.r, ?_, h.bel.setCell (p := ⟨w.heap.size + 1 + 1, i, none⟩) (show w.heap.size ≤ w.heap.size + 1 + 1 by omega) _⟩
  have := Joins.block_setCell (i := i) h.o u
  rw [hq] at this
  exact this
theorem TxB3.lt (h : TxB3 w v p0 p1 p2 p3 o0 o1 o2 o3) : w.heap.size + 1 + 1 < v.heap.size := lt_of_block h.o
end

end Go.Proofs.YtjgilpkkfpbefaaGreatDoor

namespace Go.Proofs.YtjgilpkkfpbefaaGreatDoor
open Go.RowKit Go.Maps Go.WideMaps

section
variable {w w2 W v : World} {b B : Nat} {c0 c1 c2 c3 c4 c5 c6 c7 : Value} {t : TypeId}
theorem cells8 (h : v.heap[b]? = some (.cells #[c0, c1, c2, c3, c4, c5, c6, c7] t (0, 0))) :
    (v.cell? ⟨b, 0, none⟩ = some c0 ∧ v.cell? ⟨b, 1, none⟩ = some c1 ∧ v.cell? ⟨b, 2, none⟩ = some c2 ∧ v.cell? ⟨b, 3, none⟩ = some c3 ∧ v.cell? ⟨b, 4, none⟩ = some c4 ∧ v.cell? ⟨b, 5, none⟩ = some c5 ∧ v.cell? ⟨b, 6, none⟩ = some c6 ∧ v.cell? ⟨b, 7, none⟩ = some c7) ∧ (v.frozen? ⟨b, 0, none⟩ = false ∧ v.frozen? ⟨b, 1, none⟩ = false ∧ v.frozen? ⟨b, 2, none⟩ = false ∧ v.frozen? ⟨b, 3, none⟩ = false ∧ v.frozen? ⟨b, 4, none⟩ = false ∧ v.frozen? ⟨b, 5, none⟩ = false ∧ v.frozen? ⟨b, 6, none⟩ = false ∧ v.frozen? ⟨b, 7, none⟩ = false) :=
  ⟨⟨by unfold World.cell?; rw [h]; rfl, by unfold World.cell?; rw [h]; rfl, by unfold World.cell?; rw [h]; rfl, by unfold World.cell?; rw [h]; rfl, by unfold World.cell?; rw [h]; rfl, by unfold World.cell?; rw [h]; rfl, by unfold World.cell?; rw [h]; rfl, by unfold World.cell?; rw [h]; rfl⟩, Joins.unfrozen_of_block h 0, Joins.unfrozen_of_block h 1, Joins.unfrozen_of_block h 2, Joins.unfrozen_of_block h 3, Joins.unfrozen_of_block h 4, Joins.unfrozen_of_block h 5, Joins.unfrozen_of_block h 6, Joins.unfrozen_of_block h 7⟩
theorem set8_1 (h : W.heap[b]? = some (.cells #[c0, c1, c2, c3, c4, c5, c6, c7] t (0, 0))) (v0 : Value) : (W.setCell ⟨b, 0, none⟩ v0).heap[b]? = some (.cells #[v0, c1, c2, c3, c4, c5, c6, c7] t (0, 0)) := by
  have := Joins.block_setCell (i := 0) h v0
  simpa using this
theorem set8_2 (h : W.heap[b]? = some (.cells #[c0, c1, c2, c3, c4, c5, c6, c7] t (0, 0))) (v0 v1 : Value) : ((W.setCell ⟨b, 0, none⟩ v0).setCell ⟨b, 1, none⟩ v1).heap[b]? = some (.cells #[v0, v1, c2, c3, c4, c5, c6, c7] t (0, 0)) := by
  have := Joins.block_setCell (i := 1) (set8_1 h v0) v1
  simpa using this
theorem set8_3 (h : W.heap[b]? = some (.cells #[c0, c1, c2, c3, c4, c5, c6, c7] t (0, 0))) (v0 v1 v2 : Value) : (((W.setCell ⟨b, 0, none⟩ v0).setCell ⟨b, 1, none⟩ v1).setCell ⟨b, 2, none⟩ v2).heap[b]? = some (.cells #[v0, v1, v2, c3, c4, c5, c6, c7] t (0, 0)) := by
  have := Joins.block_setCell (i := 2) (set8_2 h v0 v1) v2
  simpa using this
theorem set8_4 (h : W.heap[b]? = some (.cells #[c0, c1, c2, c3, c4, c5, c6, c7] t (0, 0))) (v0 v1 v2 v3 : Value) : ((((W.setCell ⟨b, 0, none⟩ v0).setCell ⟨b, 1, none⟩ v1).setCell ⟨b, 2, none⟩ v2).setCell ⟨b, 3, none⟩ v3).heap[b]? = some (.cells #[v0, v1, v2, v3, c4, c5, c6, c7] t (0, 0)) := by
  have := Joins.block_setCell (i := 3) (set8_3 h v0 v1 v2) v3
  simpa using this
theorem set8_5 (h : W.heap[b]? = some (.cells #[c0, c1, c2, c3, c4, c5, c6, c7] t (0, 0))) (v0 v1 v2 v3 v4 : Value) : (((((W.setCell ⟨b, 0, none⟩ v0).setCell ⟨b, 1, none⟩ v1).setCell ⟨b, 2, none⟩ v2).setCell ⟨b, 3, none⟩ v3).setCell ⟨b, 4, none⟩ v4).heap[b]? = some (.cells #[v0, v1, v2, v3, v4, c5, c6, c7] t (0, 0)) := by
  have := Joins.block_setCell (i := 4) (set8_4 h v0 v1 v2 v3) v4
  simpa using this
theorem set8_6 (h : W.heap[b]? = some (.cells #[c0, c1, c2, c3, c4, c5, c6, c7] t (0, 0))) (v0 v1 v2 v3 v4 v5 : Value) : ((((((W.setCell ⟨b, 0, none⟩ v0).setCell ⟨b, 1, none⟩ v1).setCell ⟨b, 2, none⟩ v2).setCell ⟨b, 3, none⟩ v3).setCell ⟨b, 4, none⟩ v4).setCell ⟨b, 5, none⟩ v5).heap[b]? = some (.cells #[v0, v1, v2, v3, v4, v5, c6, c7] t (0, 0)) := by
  have := Joins.block_setCell (i := 5) (set8_5 h v0 v1 v2 v3 v4) v5
  simpa using this
theorem set8_7 (h : W.heap[b]? = some (.cells #[c0, c1, c2, c3, c4, c5, c6, c7] t (0, 0))) (v0 v1 v2 v3 v4 v5 v6 : Value) : (((((((W.setCell ⟨b, 0, none⟩ v0).setCell ⟨b, 1, none⟩ v1).setCell ⟨b, 2, none⟩ v2).setCell ⟨b, 3, none⟩ v3).setCell ⟨b, 4, none⟩ v4).setCell ⟨b, 5, none⟩ v5).setCell ⟨b, 6, none⟩ v6).heap[b]? = some (.cells #[v0, v1, v2, v3, v4, v5, v6, c7] t (0, 0)) := by
  have := Joins.block_setCell (i := 6) (set8_6 h v0 v1 v2 v3 v4 v5) v6
  simpa using this
theorem set8_8 (h : W.heap[b]? = some (.cells #[c0, c1, c2, c3, c4, c5, c6, c7] t (0, 0))) (v0 v1 v2 v3 v4 v5 v6 v7 : Value) : ((((((((W.setCell ⟨b, 0, none⟩ v0).setCell ⟨b, 1, none⟩ v1).setCell ⟨b, 2, none⟩ v2).setCell ⟨b, 3, none⟩ v3).setCell ⟨b, 4, none⟩ v4).setCell ⟨b, 5, none⟩ v5).setCell ⟨b, 6, none⟩ v6).setCell ⟨b, 7, none⟩ v7).heap[b]? = some (.cells #[v0, v1, v2, v3, v4, v5, v6, v7] t (0, 0)) := by
  have := Joins.block_setCell (i := 7) (set8_7 h v0 v1 v2 v3 v4 v5 v6) v7
  simpa using this
theorem eight_set (h : W.heap[b]? = some (.cells #[c0, c1, c2, c3, c4, c5, c6, c7] t (0, 0))) (v0 v1 v2 v3 v4 v5 v6 v7 : Value) :
    (W.setCell ⟨b, 0, none⟩ v0).cell? ⟨b, 0, none⟩ = some v0 ∧ ((W.setCell ⟨b, 0, none⟩ v0).setCell ⟨b, 1, none⟩ v1).cell? ⟨b, 1, none⟩ = some v1 ∧ (((W.setCell ⟨b, 0, none⟩ v0).setCell ⟨b, 1, none⟩ v1).setCell ⟨b, 2, none⟩ v2).cell? ⟨b, 2, none⟩ = some v2 ∧ ((((W.setCell ⟨b, 0, none⟩ v0).setCell ⟨b, 1, none⟩ v1).setCell ⟨b, 2, none⟩ v2).setCell ⟨b, 3, none⟩ v3).cell? ⟨b, 3, none⟩ = some v3 ∧ (((((W.setCell ⟨b, 0, none⟩ v0).setCell ⟨b, 1, none⟩ v1).setCell ⟨b, 2, none⟩ v2).setCell ⟨b, 3, none⟩ v3).setCell ⟨b, 4, none⟩ v4).cell? ⟨b, 4, none⟩ = some v4 ∧ ((((((W.setCell ⟨b, 0, none⟩ v0).setCell ⟨b, 1, none⟩ v1).setCell ⟨b, 2, none⟩ v2).setCell ⟨b, 3, none⟩ v3).setCell ⟨b, 4, none⟩ v4).setCell ⟨b, 5, none⟩ v5).cell? ⟨b, 5, none⟩ = some v5 ∧ (((((((W.setCell ⟨b, 0, none⟩ v0).setCell ⟨b, 1, none⟩ v1).setCell ⟨b, 2, none⟩ v2).setCell ⟨b, 3, none⟩ v3).setCell ⟨b, 4, none⟩ v4).setCell ⟨b, 5, none⟩ v5).setCell ⟨b, 6, none⟩ v6).cell? ⟨b, 6, none⟩ = some v6 ∧ ((((((((W.setCell ⟨b, 0, none⟩ v0).setCell ⟨b, 1, none⟩ v1).setCell ⟨b, 2, none⟩ v2).setCell ⟨b, 3, none⟩ v3).setCell ⟨b, 4, none⟩ v4).setCell ⟨b, 5, none⟩ v5).setCell ⟨b, 6, none⟩ v6).setCell ⟨b, 7, none⟩ v7).cell? ⟨b, 7, none⟩ = some v7 :=
  ⟨(cells8 (set8_1 h v0)).1.1, (cells8 (set8_2 h v0 v1)).1.2.1, (cells8 (set8_3 h v0 v1 v2)).1.2.2.1, (cells8 (set8_4 h v0 v1 v2 v3)).1.2.2.2.1, (cells8 (set8_5 h v0 v1 v2 v3 v4)).1.2.2.2.2.1, (cells8 (set8_6 h v0 v1 v2 v3 v4 v5)).1.2.2.2.2.2.1, (cells8 (set8_7 h v0 v1 v2 v3 v4 v5 v6)).1.2.2.2.2.2.2.1, (cells8 (set8_8 h v0 v1 v2 v3 v4 v5 v6 v7)).1.2.2.2.2.2.2.2⟩
theorem below_set8 (h : Below B w W) (hb : B ≤ b) (v0 v1 v2 v3 v4 v5 v6 v7 : Value) : Below B w ((((((((W.setCell ⟨b, 0, none⟩ v0).setCell ⟨b, 1, none⟩ v1).setCell ⟨b, 2, none⟩ v2).setCell ⟨b, 3, none⟩ v3).setCell ⟨b, 4, none⟩ v4).setCell ⟨b, 5, none⟩ v5).setCell ⟨b, 6, none⟩ v6).setCell ⟨b, 7, none⟩ v7) :=
  ((((((((h.setCell (p := ⟨b, 0, none⟩) hb _).setCell (p := ⟨b, 1, none⟩) hb _).setCell (p := ⟨b, 2, none⟩) hb _).setCell (p := ⟨b, 3, none⟩) hb _).setCell (p := ⟨b, 4, none⟩) hb _).setCell (p := ⟨b, 5, none⟩) hb _).setCell (p := ⟨b, 6, none⟩) hb _).setCell (p := ⟨b, 7, none⟩) hb _)
theorem row_set8 {base n size : Nat} {e : TypeId} {u : Value} {xs : List Value} (h : W.ownsRow base e size u n xs) (hb : b < base) (v0 v1 v2 v3 v4 v5 v6 v7 : Value) : ((((((((W.setCell ⟨b, 0, none⟩ v0).setCell ⟨b, 1, none⟩ v1).setCell ⟨b, 2, none⟩ v2).setCell ⟨b, 3, none⟩ v3).setCell ⟨b, 4, none⟩ v4).setCell ⟨b, 5, none⟩ v5).setCell ⟨b, 6, none⟩ v6).setCell ⟨b, 7, none⟩ v7).ownsRow base e size u n xs :=
  (ownsRow_setCell_below (ownsRow_setCell_below (ownsRow_setCell_below (ownsRow_setCell_below (ownsRow_setCell_below (ownsRow_setCell_below (ownsRow_setCell_below (ownsRow_setCell_below h (a := ⟨b, 0, none⟩) hb _) (a := ⟨b, 1, none⟩) hb _) (a := ⟨b, 2, none⟩) hb _) (a := ⟨b, 3, none⟩) hb _) (a := ⟨b, 4, none⟩) hb _) (a := ⟨b, 5, none⟩) hb _) (a := ⟨b, 6, none⟩) hb _) (a := ⟨b, 7, none⟩) hb _)
end

structure Co where
  p : Int
  q : Int
  v : Int
  l : List Int
  x : Int
  y : Int
  h : Int
  m : Bool
def C0 : Co := ⟨0, 0, 0, [], 0, 0, 0, false⟩

/-- The eight cells of a coin. -/
def CoAt (w : World) (b i : Nat) (c : Co) (ka : Option Addr) (kc : Nat) : Prop :=
  w.cell? ⟨b, i, none⟩ = some (.int .i64 c.p) ∧ w.cell? ⟨b, i + 1, none⟩ = some (.int .i64 c.q) ∧ w.cell? ⟨b, i + 2, none⟩ = some (.int .i64 c.v) ∧ w.cell? ⟨b, i + 3, none⟩ = some (.slice ka c.l.length kc) ∧ w.cell? ⟨b, i + 4, none⟩ = some (.int .i64 c.x) ∧ w.cell? ⟨b, i + 5, none⟩ = some (.int .i64 c.y) ∧ w.cell? ⟨b, i + 6, none⟩ = some (.int .i64 c.h) ∧ w.cell? ⟨b, i + 7, none⟩ = some (.bool c.m)
theorem CoAt.below {w w' : World} {b i B : Nat} {c : Co} {ka : Option Addr} {kc : Nat} (h : CoAt w b i c ka kc) (hb : Below B w w') (hB : b < B) : CoAt w' b i c ka kc :=
  ⟨(hb.cell (p := ⟨b, i, none⟩) hB).trans h.1, (hb.cell (p := ⟨b, i + 1, none⟩) hB).trans h.2.1, (hb.cell (p := ⟨b, i + 2, none⟩) hB).trans h.2.2.1, (hb.cell (p := ⟨b, i + 3, none⟩) hB).trans h.2.2.2.1, (hb.cell (p := ⟨b, i + 4, none⟩) hB).trans h.2.2.2.2.1, (hb.cell (p := ⟨b, i + 5, none⟩) hB).trans h.2.2.2.2.2.1, (hb.cell (p := ⟨b, i + 6, none⟩) hB).trans h.2.2.2.2.2.2.1, (hb.cell (p := ⟨b, i + 7, none⟩) hB).trans h.2.2.2.2.2.2.2⟩

/-- What a slice of coins leads to: eight cells each, the keys behind the fourth. -/
def CAt (w : World) (a : Option Addr) (n : Nat) (cs : List Co) : Prop :=
  cs.length = n ∧ (n = 0 ∨ ∃ b off, a = some ⟨b, off, none⟩ ∧ b < w.heap.size ∧ ∀ j, j < n → ∃ ka kc, CoAt w b (off + j * 8) (cs.getD j C0) ka kc ∧ (cs.getD j C0).l.length ≤ maxLen ∧ IAt w ka (cs.getD j C0).l.length (cs.getD j C0).l)

theorem CAt.below {w w' : World} {a : Option Addr} {n : Nat} {cs : List Co} (h : CAt w a n cs) {B : Nat} (hb : Below B w w') (hB : w.heap.size ≤ B) : CAt w' a n cs := by
  obtain ⟨hn, h | ⟨b, off, rfl, hlt, hc⟩⟩ := h
  · exact ⟨hn, .inl h⟩
  · refine ⟨hn, .inr ⟨b, off, rfl, Nat.lt_of_lt_of_le hlt hb.size, fun j hj => ?_⟩⟩
    obtain ⟨ka, kc, h0, h1, h2⟩ := hc j hj
    exact ⟨ka, kc, h0.below hb (Nat.lt_of_lt_of_le hlt hB), h1, h2.below hb hB⟩

def SzC (n : Nat) (cs : List Co) (left r : Int) : Prop := r = -1 ∨ 0 ≤ r ∧ r ≤ left ∧ (n : Int) ≤ left ∧ ∀ j, j < n → ((cs.getD j C0).l.length : Int) ≤ left

theorem szCoin_any (p q v : Int) (a : Option Addr) (n cap : Nat) (x y h : Int) (m : Bool) (left : Int) (w : World) (h0 : 0 ≤ left) (h1 : left ≤ 1048576) (hl : n ≤ maxLen) :
    Calls Tryz.prog 18 #[.agg #[.int .i64 p, .int .i64 q, .int .i64 v, .slice a n cap, .int .i64 x, .int .i64 y, .int .i64 h, .bool m], .int .i64 left] w fun e w' => ∃ r : Int, e = .returned (.int .i64 r) ∧ SzG n left r ∧ Below w.heap.size w w' := by
  have hbx : Below w.heap.size w (w.alloc (.cells #[.int .i64 p, .int .i64 q, .int .i64 v, .slice a n cap, .int .i64 x, .int .i64 y, .int .i64 h, .bool m] 64)) := below_box _
  have hS := szOut_any v a n cap x y left (w.alloc (.cells #[.int .i64 p, .int .i64 q, .int .i64 v, .slice a n cap, .int .i64 x, .int .i64 y, .int .i64 h, .bool m] 64)) h0 h1 hl
  go_enter Tryz.func18, Tryz.ntmps18
  go_wp2_with (first
    | (go_at_call 41; refine hS.mono ?_; rintro e w2 ⟨r, rfl, hr, hb2⟩; have HB : Hid (Below w.heap.size w w2) := hbx.trans (hb2.mono (by simp)); clear hb2))
  · go_ret
    exact ⟨_, rfl, Or.inl rfl, HB.out⟩
  · go_ret
    exact ⟨_, rfl, hr, HB.out⟩

set_option maxHeartbeats 400000 in
theorem szCs_any (a : Option Addr) (n cap : Nat) (cs : List Co) (left : Int) (w : World) (h0 : 0 ≤ left) (h1 : left ≤ 1048576) (hl : n ≤ maxLen) (hs : CAt w a n cs) :
    Calls Tryz.prog 5 #[.slice a n cap, .int .i64 left] w fun e w' => ∃ r : Int, e = .returned (.int .i64 r) ∧ SzC n cs left r ∧ Below w.heap.size w w' := by
  have hl' := hl
  unfold maxLen at hl
  have HO : Hid (CAt w a n cs) := hs
  clear hs
  by_cases hn : left < n
  · go_enter Tryz.func5, Tryz.ntmps5
    go_wp2
    go_ret
    exact ⟨_, rfl, Or.inl rfl, Below.refl _ _⟩
  · go_enter Tryz.func5, Tryz.ntmps5
    go_wp2
    go_loopw [1, 5] (fun v i wr => ∃ k : Nat, k ≤ n ∧ i = .int .i64 k ∧ ∃ q : Int, v = .int .i64 q ∧ 0 ≤ q ∧ q ≤ left - n ∧ Hid (∀ j, j < k → ((cs.getD j C0).l.length : Int) ≤ left) ∧ Below w.heap.size w wr) (fun _ i _ => n - (intOf i).toNat)
    case atStart => exact ⟨0, Nat.zero_le _, rfl, _, rfl, by omega, by omega, fun j hj => by omega, Below.refl _ _⟩
    case round =>
      obtain ⟨k, hk, rfl, q, rfl, hq0, hq1, HJ, hbel⟩ := hrel
      by_cases hlt : k < n
      · rcases HO.out.2 with h00 | ⟨b, off, e0, l0, d0⟩
        · omega
        subst e0
        obtain ⟨o, ho⟩ : ∃ o, o = cs.getD k C0 := ⟨_, rfl⟩
        obtain ⟨ka, kc, c0, c4, c5⟩ := d0 k hlt
        rw [← ho] at c0 c4 c5
        have HS : Hid (o = cs.getD k C0) := ho
        obtain ⟨op, oq, ov, ol, ox, oy, oh, om⟩ := o
        obtain ⟨x0, x1, x2, x3, x4, x5, x6, x7⟩ := c0.below hbel l0
        simp only at x0 x1 x2 x3 x4 x5 x6 x7
        have hsz := szCoin_any op oq ov ka ol.length kc ox oy oh om q wr hq0 (by omega) c4
        clear c0 c4 c5 ho d0
        have hki : (k : Int) < (n : Int) := by omega
        go_wp2_with (go_at_call 18; refine hsz.mono ?_; clear hsz; rintro e w2 ⟨r, rfl, hr, hb2⟩)
        · go_ret
          exact ⟨_, rfl, Or.inl rfl, hbel.trans (hb2.mono hbel.size)⟩
        · have hr0 : 0 ≤ r := by assumption
          rcases hr with e | ⟨_, hr1, hr2⟩
          · omega
          go_roundw
          case rel =>
            refine ⟨k + 1, by omega, by go_num, _, rfl, hr0, by omega, fun j hj => ?_, hbel.trans (hb2.mono hbel.size)⟩
            by_cases e : j = k
            · subst e
              rw [← HS.out]
              show (ol.length : Int) ≤ left
              omega
            · exact HJ.out j (by omega)
          case measure => simp [intOf]; omega
      · go_wp2
        go_ret
        exact ⟨_, rfl, Or.inr ⟨hq0, by omega, by omega, fun j h => HJ.out j (by omega)⟩, hbel⟩

theorem Tryz.infoCoin : (Tryz.prog.info? 86).map (fun i => (i.zero, i.size, i.bytes)) = some (some (.agg #[.int .i64 0, .int .i64 0, .int .i64 0, .slice none 0 0, .int .i64 0, .int .i64 0, .int .i64 0, .bool false]), 8, 80) := by kernel_rfl

/-- A coin that is copied: what came, the answer's place and the copy, in three blocks of their own. -/
structure K3 (w v : World) (ps os : Array Value) : Prop where
  p : v.heap[w.heap.size]? = some (.cells ps 64 (0, 0))
  r : v.heap[w.heap.size + 1]? = some (.cells #[.int .i64 0, .int .i64 0, .int .i64 0, .slice none 0 0, .int .i64 0, .int .i64 0, .int .i64 0, .bool false] 86 (0, 0))
  o : v.heap[w.heap.size + 1 + 1]? = some (.cells os 86 (0, 0))
  bel : Below w.heap.size w v
section
variable {w v v' : World} {ps os os' : Array Value}
theorem K3.lt (h : K3 w v ps os) : w.heap.size + 1 + 1 < v.heap.size := lt_of_block h.o
theorem K3.step (h : K3 w v ps os) (hb : Below v.heap.size v v') : K3 w v' ps os :=
  ⟨(keepb h.p hb).out, (keepb h.r hb).out, (keepb h.o hb).out, h.bel.trans (hb.mono h.bel.size)⟩
theorem K3.set (h : K3 w v ps os) {i : Nat} {u : Value} (hq : os.setIfInBounds i u = os') : K3 w (v.setCell ⟨w.heap.size + 1 + 1, i, none⟩ u) ps os' := by
  refine ⟨(Below.heap_setCell _ ⟨w.heap.size + 1 + 1, i, none⟩ _ w.heap.size (show w.heap.size ≠ w.heap.size + 1 + 1 by omega)).trans h.p, (Below.heap_setCell _ ⟨w.heap.size + 1 + 1, i, none⟩ _ (w.heap.size + 1) (show w.heap.size + 1 ≠ w.heap.size + 1 + 1 by omega)).trans h.r, ?_, h.bel.setCell (p := ⟨w.heap.size + 1 + 1, i, none⟩) (show w.heap.size ≤ w.heap.size + 1 + 1 by omega) _⟩
  have := Joins.block_setCell (i := i) h.o u
  rw [hq] at this
  exact this
end

/-- A coin's copy: its keys lie in new memory. -/
def OutCo (w w' : World) (e : Ending) (p q v : Int) (n : Nat) (l : List Int) (x y h : Int) (m : Bool) : Prop :=
  ∃ g c, e = .returned (.agg #[.int .i64 p, .int .i64 q, .int .i64 v, .slice (some ⟨g, 0, none⟩) n c, .int .i64 x, .int .i64 y, .int .i64 h, .bool m]) ∧ w'.ownsRow w.heap.size 2 1 (.slice (some ⟨g, 0, none⟩) n c) n (ints l) ∧ Below w.heap.size w w'

set_option maxHeartbeats 2000000 in
theorem toCoin_any (p q v : Int) (a : Option Addr) (n cap : Nat) (l : List Int) (x y h : Int) (m : Bool) (w : World) (hl : n ≤ 1048576) (hI : IAt w a n l) :
    Calls Tryz.prog 30 #[.agg #[.int .i64 p, .int .i64 q, .int .i64 v, .slice a n cap, .int .i64 x, .int .i64 y, .int .i64 h, .bool m]] w fun e w' => OutCo w w' e p q v n l x y h m := by
  obtain ⟨t0, t1, t2, t3⟩ := three_blocks w (.cells #[.int .i64 p, .int .i64 q, .int .i64 v, .slice a n cap, .int .i64 x, .int .i64 y, .int .i64 h, .bool m] 64) (.cells #[.int .i64 0, .int .i64 0, .int .i64 0, .slice none 0 0, .int .i64 0, .int .i64 0, .int .i64 0, .bool false] 86) (.cells #[.int .i64 0, .int .i64 0, .int .i64 0, .slice none 0 0, .int .i64 0, .int .i64 0, .int .i64 0, .bool false] 86)
  have hT1 : K3 w (((w.alloc (.cells #[.int .i64 p, .int .i64 q, .int .i64 v, .slice a n cap, .int .i64 x, .int .i64 y, .int .i64 h, .bool m] 64)).alloc (.cells #[.int .i64 0, .int .i64 0, .int .i64 0, .slice none 0 0, .int .i64 0, .int .i64 0, .int .i64 0, .bool false] 86)).alloc (.cells #[.int .i64 0, .int .i64 0, .int .i64 0, .slice none 0 0, .int .i64 0, .int .i64 0, .int .i64 0, .bool false] 86)) #[.int .i64 p, .int .i64 q, .int .i64 v, .slice a n cap, .int .i64 x, .int .i64 y, .int .i64 h, .bool m] #[.int .i64 0, .int .i64 0, .int .i64 0, .slice none 0 0, .int .i64 0, .int .i64 0, .int .i64 0, .bool false] := ⟨t0, t1, t2, below_box3 _ _ _⟩
  have hS := toRef_any p q (((w.alloc (.cells #[.int .i64 p, .int .i64 q, .int .i64 v, .slice a n cap, .int .i64 x, .int .i64 y, .int .i64 h, .bool m] 64)).alloc (.cells #[.int .i64 0, .int .i64 0, .int .i64 0, .slice none 0 0, .int .i64 0, .int .i64 0, .int .i64 0, .bool false] 86)).alloc (.cells #[.int .i64 0, .int .i64 0, .int .i64 0, .slice none 0 0, .int .i64 0, .int .i64 0, .int .i64 0, .bool false] 86))
  have HT1 := show Hid (K3 w (((w.alloc (.cells #[.int .i64 p, .int .i64 q, .int .i64 v, .slice a n cap, .int .i64 x, .int .i64 y, .int .i64 h, .bool m] 64)).alloc (.cells #[.int .i64 0, .int .i64 0, .int .i64 0, .slice none 0 0, .int .i64 0, .int .i64 0, .int .i64 0, .bool false] 86)).alloc (.cells #[.int .i64 0, .int .i64 0, .int .i64 0, .slice none 0 0, .int .i64 0, .int .i64 0, .int .i64 0, .bool false] 86)) #[.int .i64 p, .int .i64 q, .int .i64 v, .slice a n cap, .int .i64 x, .int .i64 y, .int .i64 h, .bool m] #[.int .i64 0, .int .i64 0, .int .i64 0, .slice none 0 0, .int .i64 0, .int .i64 0, .int .i64 0, .bool false]) from hT1
  have HI : Hid (IAt w a n l) := hI
  obtain ⟨⟨s0, s1, s2, s3, s4, s5, s6, s7⟩, _⟩ := cells8 hT1.p
  clear t0 t1 t2 t3 hT1 hI
  go_enter Tryz.func30, Tryz.ntmps30
  go_wp2_with (first
    | (go_at_call 58; refine hS.mono ?_; clear hS; rintro e w2 ⟨rfl, hb2⟩; have HT2 : Hid (K3 w w2 #[.int .i64 p, .int .i64 q, .int .i64 v, .slice a n cap, .int .i64 x, .int .i64 y, .int .i64 h, .bool m] #[.int .i64 0, .int .i64 0, .int .i64 0, .slice none 0 0, .int .i64 0, .int .i64 0, .int .i64 0, .bool false]) := HT1.out.step hb2; have HT3 : Hid (K3 w ((w2.setCell ⟨w.heap.size + 1 + 1, 0, none⟩ (.int .i64 p)).setCell ⟨w.heap.size + 1 + 1, 1, none⟩ (.int .i64 q)) #[.int .i64 p, .int .i64 q, .int .i64 v, .slice a n cap, .int .i64 x, .int .i64 y, .int .i64 h, .bool m] #[.int .i64 p, .int .i64 q, .int .i64 0, .slice none 0 0, .int .i64 0, .int .i64 0, .int .i64 0, .bool false]) := (HT2.out.set (i := 0) (u := .int .i64 p) rfl).set (i := 1) (u := .int .i64 q) rfl; obtain ⟨⟨a0, a1, a2, a3, a4, a5, a6, a7⟩, f0, f1, f2, f3, f4, f5, f6, f7⟩ := cells8 HT2.out.o; obtain ⟨⟨z0, z1, z2, z3, z4, z5, z6, z7⟩, _⟩ := cells8 HT2.out.p; have hSO := toOut_any v a n cap l x y ((w2.setCell ⟨w.heap.size + 1 + 1, 0, none⟩ (.int .i64 p)).setCell ⟨w.heap.size + 1 + 1, 1, none⟩ (.int .i64 q)) hl (HI.out.below HT3.out.bel (Nat.le_refl _)); clear hb2)
    | (go_at_call 59; refine hSO.mono ?_; clear hSO; rintro e w3 ⟨g0, k0, rfl, ho0, hb3⟩; have HT4 : Hid (K3 w w3 #[.int .i64 p, .int .i64 q, .int .i64 v, .slice a n cap, .int .i64 x, .int .i64 y, .int .i64 h, .bool m] #[.int .i64 p, .int .i64 q, .int .i64 0, .slice none 0 0, .int .i64 0, .int .i64 0, .int .i64 0, .bool false]) := HT3.out.step hb3; have HROW : Hid (w3.ownsRow (w.heap.size + 1 + 1 + 1) 2 1 (.slice (some ⟨g0, 0, none⟩) n k0) n (ints l)) := Joins.ownsRow_le ho0 (by have := HT3.out.lt; omega); clear a0 a1 a2 a3 a4 a5 a6 a7 f0 f1 f2 f3 f4 f5 f6 f7 z0 z1 z2 z3 z4 z5 z6 z7; obtain ⟨⟨a0, a1, a2, a3, a4, a5, a6, a7⟩, f0, f1, f2, f3, f4, f5, f6, f7⟩ := cells8 HT4.out.o; obtain ⟨⟨z0, z1, z2, z3, z4, z5, z6, z7⟩, _⟩ := cells8 HT4.out.p; obtain ⟨⟨r0, r1, r2, r3, r4, r5, r6, r7⟩, q0, q1, q2, q3, q4, q5, q6, q7⟩ := cells8 HT4.out.r; clear ho0 hb3))
  have HT5 : Hid (K3 w ((((((w3.setCell ⟨w.heap.size + 1 + 1, 2, none⟩ (.int .i64 v)).setCell ⟨w.heap.size + 1 + 1, 3, none⟩ (.slice (some ⟨g0, 0, none⟩) n k0)).setCell ⟨w.heap.size + 1 + 1, 4, none⟩ (.int .i64 x)).setCell ⟨w.heap.size + 1 + 1, 5, none⟩ (.int .i64 y)).setCell ⟨w.heap.size + 1 + 1, 6, none⟩ (.int .i64 h)).setCell ⟨w.heap.size + 1 + 1, 7, none⟩ (.bool m)) #[.int .i64 p, .int .i64 q, .int .i64 v, .slice a n cap, .int .i64 x, .int .i64 y, .int .i64 h, .bool m] #[.int .i64 p, .int .i64 q, .int .i64 v, .slice (some ⟨g0, 0, none⟩) n k0, .int .i64 x, .int .i64 y, .int .i64 h, .bool m]) := ((((((HT4.out.set (i := 2) (u := .int .i64 v) rfl).set (i := 3) (u := .slice (some ⟨g0, 0, none⟩) n k0) rfl).set (i := 4) (u := .int .i64 x) rfl).set (i := 5) (u := .int .i64 y) rfl).set (i := 6) (u := .int .i64 h) rfl).set (i := 7) (u := .bool m) rfl)
  obtain ⟨j0, j1, j2, j3, j4, j5, j6, j7⟩ := eight_set HT5.out.r (.int .i64 p) (.int .i64 q) (.int .i64 v) (.slice (some ⟨g0, 0, none⟩) n k0) (.int .i64 x) (.int .i64 y) (.int .i64 h) (.bool m)
  refine bodyPost_ret (v := .agg #[.int .i64 p, .int .i64 q, .int .i64 v, .slice (some ⟨g0, 0, none⟩) n k0, .int .i64 x, .int .i64 y, .int .i64 h, .bool m]) (by simp [results, Tryz.results30, go_sem, j0, j1, j2, j3, j4, j5, j6, j7]) rfl ⟨g0, k0, rfl, ?_, ?_⟩
  · have := HROW.out
    replace this := ownsRow_setCell_below this (a := ⟨w.heap.size + 1 + 1, 2, none⟩) (show w.heap.size + 1 + 1 < _ by omega) (.int .i64 v); replace this := ownsRow_setCell_below this (a := ⟨w.heap.size + 1 + 1, 3, none⟩) (show w.heap.size + 1 + 1 < _ by omega) (.slice (some ⟨g0, 0, none⟩) n k0); replace this := ownsRow_setCell_below this (a := ⟨w.heap.size + 1 + 1, 4, none⟩) (show w.heap.size + 1 + 1 < _ by omega) (.int .i64 x); replace this := ownsRow_setCell_below this (a := ⟨w.heap.size + 1 + 1, 5, none⟩) (show w.heap.size + 1 + 1 < _ by omega) (.int .i64 y); replace this := ownsRow_setCell_below this (a := ⟨w.heap.size + 1 + 1, 6, none⟩) (show w.heap.size + 1 + 1 < _ by omega) (.int .i64 h); replace this := ownsRow_setCell_below this (a := ⟨w.heap.size + 1 + 1, 7, none⟩) (show w.heap.size + 1 + 1 < _ by omega) (.bool m)
    exact Joins.ownsRow_le (row_set8 this (by omega) _ _ _ _ _ _ _ _) (by omega)
  · exact below_set8 HT5.out.bel (by omega) _ _ _ _ _ _ _ _

end Go.Proofs.YtjgilpkkfpbefaaGreatDoor

namespace Go.Proofs.YtjgilpkkfpbefaaGreatDoor
open Go.RowKit Go.Maps Go.WideMaps

/-- A row of coins under way in block B: k of them are there. -/
def RowC (wr : World) (B n k : Nat) (cs : List Co) : Prop :=
  ∃ xs, wr.ownsRow B 86 8 (.slice (some ⟨B, 0, none⟩) n n) n xs ∧ ∀ j, j < k → ∃ g c, (xs[j * 8]? = some (.int .i64 (cs.getD j C0).p) ∧ xs[j * 8 + 1]? = some (.int .i64 (cs.getD j C0).q) ∧ xs[j * 8 + 2]? = some (.int .i64 (cs.getD j C0).v) ∧ xs[j * 8 + 3]? = some (.slice (some ⟨g, 0, none⟩) (cs.getD j C0).l.length c) ∧ xs[j * 8 + 4]? = some (.int .i64 (cs.getD j C0).x) ∧ xs[j * 8 + 5]? = some (.int .i64 (cs.getD j C0).y) ∧ xs[j * 8 + 6]? = some (.int .i64 (cs.getD j C0).h) ∧ xs[j * 8 + 7]? = some (.bool (cs.getD j C0).m)) ∧
    B < g ∧ (cs.getD j C0).l.length ≤ maxLen ∧ IAt wr (some ⟨g, 0, none⟩) (cs.getD j C0).l.length (cs.getD j C0).l

set_option maxHeartbeats 1000000 in
theorem toC_round {wr w2 : World} {B n k : Nat} {cs : List Co} {p q v x y h : Int} {m : Bool} {l : List Int} {g c : Nat} (ho : (⟨p, q, v, l, x, y, h, m⟩ : Co) = cs.getD k C0) (hlt : k < n) (hR : RowC wr B n k cs) (hb : Below wr.heap.size wr w2) (hk : w2.ownsRow wr.heap.size 2 1 (.slice (some ⟨g, 0, none⟩) l.length c) l.length (ints l)) (hBl : B < wr.heap.size) (hol : l.length ≤ maxLen) :
    ∃ u0 u1 u2 u3 u4 u5 u6 u7, (w2.cell? ⟨B, k * 8, none⟩ = some u0 ∧ w2.cell? ⟨B, k * 8 + 1, none⟩ = some u1 ∧ w2.cell? ⟨B, k * 8 + 2, none⟩ = some u2 ∧ w2.cell? ⟨B, k * 8 + 3, none⟩ = some u3 ∧ w2.cell? ⟨B, k * 8 + 4, none⟩ = some u4 ∧ w2.cell? ⟨B, k * 8 + 5, none⟩ = some u5 ∧ w2.cell? ⟨B, k * 8 + 6, none⟩ = some u6 ∧ w2.cell? ⟨B, k * 8 + 7, none⟩ = some u7) ∧ (w2.frozen? ⟨B, k * 8, none⟩ = false ∧ w2.frozen? ⟨B, k * 8 + 1, none⟩ = false ∧ w2.frozen? ⟨B, k * 8 + 2, none⟩ = false ∧ w2.frozen? ⟨B, k * 8 + 3, none⟩ = false ∧ w2.frozen? ⟨B, k * 8 + 4, none⟩ = false ∧ w2.frozen? ⟨B, k * 8 + 5, none⟩ = false ∧ w2.frozen? ⟨B, k * 8 + 6, none⟩ = false ∧ w2.frozen? ⟨B, k * 8 + 7, none⟩ = false) ∧
      Hid (RowC ((((((((w2.setCell ⟨B, k * 8, none⟩ (.int .i64 p)).setCell ⟨B, k * 8 + 1, none⟩ (.int .i64 q)).setCell ⟨B, k * 8 + 2, none⟩ (.int .i64 v)).setCell ⟨B, k * 8 + 3, none⟩ (.slice (some ⟨g, 0, none⟩) l.length c)).setCell ⟨B, k * 8 + 4, none⟩ (.int .i64 x)).setCell ⟨B, k * 8 + 5, none⟩ (.int .i64 y)).setCell ⟨B, k * 8 + 6, none⟩ (.int .i64 h)).setCell ⟨B, k * 8 + 7, none⟩ (.bool m)) B n (k + 1) cs) := by
  obtain ⟨xs, hown0, hxs⟩ := hR
  have hown := hown0.kept (w' := w2) (row := none) ⟨hb.os, hb.tape, hb.output, hb.size, fun k hk _ => hb.block k hk⟩ (by simp [Value.ownBlock])
  have hxl := hown.1
  have r1 := (hown.stored (k * 8) (.int .i64 p)).1
  have r2 := (r1.stored (k * 8 + 1) (.int .i64 q)).1
  have r3 := (r2.stored (k * 8 + 2) (.int .i64 v)).1
  have r4 := (r3.stored (k * 8 + 3) (.slice (some ⟨g, 0, none⟩) l.length c)).1
  have r5 := (r4.stored (k * 8 + 4) (.int .i64 x)).1
  have r6 := (r5.stored (k * 8 + 5) (.int .i64 y)).1
  have r7 := (r6.stored (k * 8 + 6) (.int .i64 h)).1
  have r8 := (r7.stored (k * 8 + 7) (.bool m)).1
  have hgl : B < g := by have := (hk.lt g rfl).1; omega
  have hgB : g ≠ B := by omega
  have hIk : IAt w2 (some ⟨g, 0, none⟩) l.length l := IAt.owned hk rfl
  refine ⟨_, _, _, _, _, _, _, _, ⟨(hown.cellAt (k * 8) (by omega)).trans (List.getElem?_eq_getElem (by omega)), (hown.cellAt (k * 8 + 1) (by omega)).trans (List.getElem?_eq_getElem (by omega)), (hown.cellAt (k * 8 + 2) (by omega)).trans (List.getElem?_eq_getElem (by omega)), (hown.cellAt (k * 8 + 3) (by omega)).trans (List.getElem?_eq_getElem (by omega)), (hown.cellAt (k * 8 + 4) (by omega)).trans (List.getElem?_eq_getElem (by omega)), (hown.cellAt (k * 8 + 5) (by omega)).trans (List.getElem?_eq_getElem (by omega)), (hown.cellAt (k * 8 + 6) (by omega)).trans (List.getElem?_eq_getElem (by omega)), (hown.cellAt (k * 8 + 7) (by omega)).trans (List.getElem?_eq_getElem (by omega))⟩, ⟨hown.frozenAt _, hown.frozenAt _, hown.frozenAt _, hown.frozenAt _, hown.frozenAt _, hown.frozenAt _, hown.frozenAt _, hown.frozenAt _⟩, _, r8, fun j hj => ?_⟩
  by_cases e : k = j
  · subst e
    rw [← ho]
    refine ⟨g, c, ⟨?_, ?_, ?_, ?_, ?_, ?_, ?_, ?_⟩, hgl, hol, ((((((((hIk.setOther hgB _).setOther hgB _).setOther hgB _).setOther hgB _).setOther hgB _).setOther hgB _).setOther hgB _).setOther hgB _)⟩
    · rw [List.getElem?_set_ne (by omega), List.getElem?_set_ne (by omega), List.getElem?_set_ne (by omega), List.getElem?_set_ne (by omega), List.getElem?_set_ne (by omega), List.getElem?_set_ne (by omega), List.getElem?_set_ne (by omega), List.getElem?_set_self (by omega)]
    · rw [List.getElem?_set_ne (by omega), List.getElem?_set_ne (by omega), List.getElem?_set_ne (by omega), List.getElem?_set_ne (by omega), List.getElem?_set_ne (by omega), List.getElem?_set_ne (by omega), List.getElem?_set_self (by simp; omega)]
    · rw [List.getElem?_set_ne (by omega), List.getElem?_set_ne (by omega), List.getElem?_set_ne (by omega), List.getElem?_set_ne (by omega), List.getElem?_set_ne (by omega), List.getElem?_set_self (by simp; omega)]
    · rw [List.getElem?_set_ne (by omega), List.getElem?_set_ne (by omega), List.getElem?_set_ne (by omega), List.getElem?_set_ne (by omega), List.getElem?_set_self (by simp; omega)]
    · rw [List.getElem?_set_ne (by omega), List.getElem?_set_ne (by omega), List.getElem?_set_ne (by omega), List.getElem?_set_self (by simp; omega)]
    · rw [List.getElem?_set_ne (by omega), List.getElem?_set_ne (by omega), List.getElem?_set_self (by simp; omega)]
    · rw [List.getElem?_set_ne (by omega), List.getElem?_set_self (by simp; omega)]
    · rw [List.getElem?_set_self (by simp; omega)]
  · obtain ⟨g', c', ⟨e0, e1, e2, e3, e4, e5, e6, e7⟩, hgl', hl', hI'⟩ := hxs j (by omega)
    have hg' : g' ≠ B := by omega
    refine ⟨g', c', ⟨?_, ?_, ?_, ?_, ?_, ?_, ?_, ?_⟩, hgl', hl', (((((((((hI'.below hb (Nat.le_refl _)).setOther hg' _).setOther hg' _).setOther hg' _).setOther hg' _).setOther hg' _).setOther hg' _).setOther hg' _).setOther hg' _)⟩
    · rw [List.getElem?_set_ne (by omega), List.getElem?_set_ne (by omega), List.getElem?_set_ne (by omega), List.getElem?_set_ne (by omega), List.getElem?_set_ne (by omega), List.getElem?_set_ne (by omega), List.getElem?_set_ne (by omega), List.getElem?_set_ne (by omega)]; exact e0
    · rw [List.getElem?_set_ne (by omega), List.getElem?_set_ne (by omega), List.getElem?_set_ne (by omega), List.getElem?_set_ne (by omega), List.getElem?_set_ne (by omega), List.getElem?_set_ne (by omega), List.getElem?_set_ne (by omega), List.getElem?_set_ne (by omega)]; exact e1
    · rw [List.getElem?_set_ne (by omega), List.getElem?_set_ne (by omega), List.getElem?_set_ne (by omega), List.getElem?_set_ne (by omega), List.getElem?_set_ne (by omega), List.getElem?_set_ne (by omega), List.getElem?_set_ne (by omega), List.getElem?_set_ne (by omega)]; exact e2
    · rw [List.getElem?_set_ne (by omega), List.getElem?_set_ne (by omega), List.getElem?_set_ne (by omega), List.getElem?_set_ne (by omega), List.getElem?_set_ne (by omega), List.getElem?_set_ne (by omega), List.getElem?_set_ne (by omega), List.getElem?_set_ne (by omega)]; exact e3
    · rw [List.getElem?_set_ne (by omega), List.getElem?_set_ne (by omega), List.getElem?_set_ne (by omega), List.getElem?_set_ne (by omega), List.getElem?_set_ne (by omega), List.getElem?_set_ne (by omega), List.getElem?_set_ne (by omega), List.getElem?_set_ne (by omega)]; exact e4
    · rw [List.getElem?_set_ne (by omega), List.getElem?_set_ne (by omega), List.getElem?_set_ne (by omega), List.getElem?_set_ne (by omega), List.getElem?_set_ne (by omega), List.getElem?_set_ne (by omega), List.getElem?_set_ne (by omega), List.getElem?_set_ne (by omega)]; exact e5
    · rw [List.getElem?_set_ne (by omega), List.getElem?_set_ne (by omega), List.getElem?_set_ne (by omega), List.getElem?_set_ne (by omega), List.getElem?_set_ne (by omega), List.getElem?_set_ne (by omega), List.getElem?_set_ne (by omega), List.getElem?_set_ne (by omega)]; exact e6
    · rw [List.getElem?_set_ne (by omega), List.getElem?_set_ne (by omega), List.getElem?_set_ne (by omega), List.getElem?_set_ne (by omega), List.getElem?_set_ne (by omega), List.getElem?_set_ne (by omega), List.getElem?_set_ne (by omega), List.getElem?_set_ne (by omega)]; exact e7

/-- Coins in new memory: their row and their keys lie in blocks from 'base' on. -/
def CAtN (w : World) (base g n : Nat) (cs : List Co) : Prop :=
  cs.length = n ∧ base ≤ g ∧ g < w.heap.size ∧ ∀ j, j < n → ∃ kg kc, CoAt w g (j * 8) (cs.getD j C0) (some ⟨kg, 0, none⟩) kc ∧ base ≤ kg ∧ (cs.getD j C0).l.length ≤ maxLen ∧ IAt w (some ⟨kg, 0, none⟩) (cs.getD j C0).l.length (cs.getD j C0).l
theorem CAtN.at {w : World} {base g n : Nat} {cs : List Co} (h : CAtN w base g n cs) : CAt w (some ⟨g, 0, none⟩) n cs := by
  obtain ⟨hn, _, hg, hc⟩ := h
  refine ⟨hn, .inr ⟨g, 0, rfl, hg, fun j hj => ?_⟩⟩
  obtain ⟨kg, kc, h0, _, h5, h6⟩ := hc j hj
  exact ⟨_, kc, by rw [Nat.zero_add]; exact h0, h5, h6⟩
theorem CAtN.below {w w' : World} {base g n : Nat} {cs : List Co} (h : CAtN w base g n cs) (hb : Below w.heap.size w w') : CAtN w' base g n cs := by
  obtain ⟨hn, h1, hg, hc⟩ := h
  refine ⟨hn, h1, Nat.lt_of_lt_of_le hg hb.size, fun j hj => ?_⟩
  obtain ⟨kg, kk, h0, h4, h5, h6⟩ := hc j hj
  exact ⟨kg, kk, h0.below hb hg, h4, h5, h6.below hb (Nat.le_refl _)⟩

theorem RowC.at {w : World} {B n : Nat} {cs : List Co} (hn : cs.length = n) (h : RowC w B n n cs) : CAtN w B B n cs := by
  obtain ⟨xs, hown, hxs⟩ := h
  refine ⟨hn, Nat.le_refl _, (hown.lt B rfl).2, fun j hj => ?_⟩
  obtain ⟨g, c, ⟨e0, e1, e2, e3, e4, e5, e6, e7⟩, hg, hl, hI⟩ := hxs j hj
  have hxl := hown.1
  refine ⟨g, c, ⟨?_, ?_, ?_, ?_, ?_, ?_, ?_, ?_⟩, by omega, hl, hI⟩
  · rw [hown.cellAt (j * 8) (by omega), e0]
  · rw [hown.cellAt (j * 8 + 1) (by omega), e1]
  · rw [hown.cellAt (j * 8 + 2) (by omega), e2]
  · rw [hown.cellAt (j * 8 + 3) (by omega), e3]
  · rw [hown.cellAt (j * 8 + 4) (by omega), e4]
  · rw [hown.cellAt (j * 8 + 5) (by omega), e5]
  · rw [hown.cellAt (j * 8 + 6) (by omega), e6]
  · rw [hown.cellAt (j * 8 + 7) (by omega), e7]

set_option maxHeartbeats 1000000 in
theorem toCs_any (a : Option Addr) (n cap : Nat) (cs : List Co) (w : World) (hl : n ≤ 1048576) (hk : ∀ j, j < n → (cs.getD j C0).l.length ≤ 1048576) (hs : CAt w a n cs) :
    Calls Tryz.prog 9 #[.slice a n cap] w fun e w' => ∃ g c, e = .returned (.slice (some ⟨g, 0, none⟩) n c) ∧ CAtN w' w.heap.size g n cs ∧ n ≤ c ∧ c ≤ maxLen ∧ Below w.heap.size w w' := by
  have HN : Hid (cs.length = n) := hs.1
  have HSS : Hid (CAt w a n cs) := hs
  have HKL : Hid (∀ j, j < n → (cs.getD j C0).l.length ≤ 1048576) := hk
  clear hs hk
  obtain ⟨i0, hi, hz0, hz1, hz2⟩ := info_parts Tryz.infoCoin
  have hml : n ≤ maxLen := by unfold maxLen; omega
  go_enter Tryz.func9, Tryz.ntmps9
  go_wp2_with (first | (at_make; refine wpList_make_full _ rfl _ _ 41 rfl w.heap.size 86 i0 (.agg #[.int .i64 0, .int .i64 0, .int .i64 0, .slice none 0 0, .int .i64 0, .int .i64 0, .int .i64 0, .bool false]) 8 Tryz.underlying41 hi hz0 hz1 _ _ _ _ n rfl rfl (by omega) (by omega) (by rw [hz2]; omega) hml (Nat.le_refl _) ?_; intro w1 ho1 hg1))
  have hb1 : Below w.heap.size w w1 := (Below.refl _ _).grown hg1 (Nat.le_refl _) (fun k h => by cases h)
  have hB1 : w.heap.size < w1.heap.size := (ho1.lt _ rfl).2
  go_loopw [4] (fun i wr => ∃ k : Nat, k ≤ n ∧ i = .int .i64 k ∧ Below w.heap.size w wr ∧ w.heap.size < wr.heap.size ∧ Hid (RowC wr w.heap.size n k cs)) (fun i _ => n - (intOf i).toNat)
  case atStart => exact ⟨0, Nat.zero_le _, rfl, hb1, hB1, _, ho1, fun j hj => by omega⟩
  case round =>
    obtain ⟨k, hk, rfl, hbel, hBw, HX⟩ := hrel
    clear ho1 hg1 hb1 hB1
    by_cases hlt : k < n
    · rcases HSS.out.2 with h0 | ⟨b, off, ha, hb, hc⟩
      · omega
      subst ha
      obtain ⟨o, ho⟩ : ∃ o, o = cs.getD k C0 := ⟨_, rfl⟩
      obtain ⟨ka, kc, c0, c4, c5⟩ := hc k hlt
      have c6 := HKL.out k hlt
      rw [← ho] at c0 c4 c5 c6
      obtain ⟨op, oq, ov, ol, ox, oy, oh, om⟩ := o
      have HS : Hid ((⟨op, oq, ov, ol, ox, oy, oh, om⟩ : Co) = cs.getD k C0) := ho
      obtain ⟨x0, x1, x2, x3, x4, x5, x6, x7⟩ := c0.below hbel hb
      simp only at x0 x1 x2 x3 x4 x5 x6 x7
      have hto := toCoin_any op oq ov ka ol.length kc ol ox oy oh om wr c6 (c5.below hbel (Nat.le_refl _))
      have HC4 : Hid (ol.length ≤ maxLen) := c4
      clear hc ho c0 c4 c5 c6
      go_wp2_with (first | (go_at_call 30; refine hto.mono ?_; clear hto; rintro e w2 ⟨g, c, rfl, hk2, hb2⟩; obtain ⟨u0, u1, u2, u3, u4, u5, u6, u7, ⟨y0, y1, y2, y3, y4, y5, y6, y7⟩, ⟨f0, f1, f2, f3, f4, f5, f6, f7⟩, HX2⟩ := toC_round HS.out hlt HX.out hb2 hk2 hBw HC4.out; have HB2 : Hid (Below w.heap.size w w2) := hbel.trans (hb2.mono hbel.size); have hBw2 := Nat.lt_of_lt_of_le hBw hb2.size; clear hk2 hb2))
      go_roundw
      case rel => exact ⟨k + 1, by omega, by go_num, ((((((((HB2.out.setCell (Nat.le_refl _) _).setCell (Nat.le_refl _) _).setCell (Nat.le_refl _) _).setCell (Nat.le_refl _) _).setCell (Nat.le_refl _) _).setCell (Nat.le_refl _) _).setCell (Nat.le_refl _) _).setCell (Nat.le_refl _) _), by simpa using hBw2, HX2⟩
      case measure => simp [intOf]; omega
    · obtain rfl : k = n := by omega
      go_wp2
      go_ret
      exact ⟨_, _, rfl, HX.out.at HN.out, Nat.le_refl _, hml, hbel⟩

theorem blocks2 (w : World) (o o' : Obj) : ((w.alloc o).alloc o').heap[w.heap.size]? = some o ∧ ((w.alloc o).alloc o').heap[w.heap.size + 1]? = some o' ∧ ((w.alloc o).alloc o').heap.size = w.heap.size + 1 + 1 := by
  refine ⟨block_at2, ?_, by simp⟩
  rw [show w.heap.size + 1 = (w.alloc o).heap.size by simp]
  exact heap_alloc_new _ _

set_option maxHeartbeats 1000000 in
theorem eqCoin_any (p q v : Int) (a b : Option Addr) (n c1 c2 : Nat) (l : List Int) (x y h : Int) (m : Bool) (w : World) (hl : n ≤ 1048576) (ha : IAt w a n l) (hb : IAt w b n l) :
    Calls Tryz.prog 38 #[.agg #[.int .i64 p, .int .i64 q, .int .i64 v, .slice a n c1, .int .i64 x, .int .i64 y, .int .i64 h, .bool m], .agg #[.int .i64 p, .int .i64 q, .int .i64 v, .slice b n c2, .int .i64 x, .int .i64 y, .int .i64 h, .bool m]] w fun e w' => e = .returned (.bool true) ∧ Below w.heap.size w w' := by
  obtain ⟨t0, t1, t2⟩ := blocks2 w (.cells #[.int .i64 p, .int .i64 q, .int .i64 v, .slice a n c1, .int .i64 x, .int .i64 y, .int .i64 h, .bool m] 86) (.cells #[.int .i64 p, .int .i64 q, .int .i64 v, .slice b n c2, .int .i64 x, .int .i64 y, .int .i64 h, .bool m] 86)
  have HBX : Hid (Below w.heap.size w ((w.alloc (.cells #[.int .i64 p, .int .i64 q, .int .i64 v, .slice a n c1, .int .i64 x, .int .i64 y, .int .i64 h, .bool m] 86)).alloc (.cells #[.int .i64 p, .int .i64 q, .int .i64 v, .slice b n c2, .int .i64 x, .int .i64 y, .int .i64 h, .bool m] 86))) := below_box2 _ _
  have T0 : Hid (((w.alloc (.cells #[.int .i64 p, .int .i64 q, .int .i64 v, .slice a n c1, .int .i64 x, .int .i64 y, .int .i64 h, .bool m] 86)).alloc (.cells #[.int .i64 p, .int .i64 q, .int .i64 v, .slice b n c2, .int .i64 x, .int .i64 y, .int .i64 h, .bool m] 86)).heap[w.heap.size]? = some (.cells #[.int .i64 p, .int .i64 q, .int .i64 v, .slice a n c1, .int .i64 x, .int .i64 y, .int .i64 h, .bool m] 86 (0, 0))) := t0
  have T1 : Hid (((w.alloc (.cells #[.int .i64 p, .int .i64 q, .int .i64 v, .slice a n c1, .int .i64 x, .int .i64 y, .int .i64 h, .bool m] 86)).alloc (.cells #[.int .i64 p, .int .i64 q, .int .i64 v, .slice b n c2, .int .i64 x, .int .i64 y, .int .i64 h, .bool m] 86)).heap[w.heap.size + 1]? = some (.cells #[.int .i64 p, .int .i64 q, .int .i64 v, .slice b n c2, .int .i64 x, .int .i64 y, .int .i64 h, .bool m] 86 (0, 0))) := t1
  have hR := eqRef_any p q ((w.alloc (.cells #[.int .i64 p, .int .i64 q, .int .i64 v, .slice a n c1, .int .i64 x, .int .i64 y, .int .i64 h, .bool m] 86)).alloc (.cells #[.int .i64 p, .int .i64 q, .int .i64 v, .slice b n c2, .int .i64 x, .int .i64 y, .int .i64 h, .bool m] 86))
  have HA : Hid (IAt w a n l) := ha
  have HB : Hid (IAt w b n l) := hb
  have em : (m != m) = false := by simp
  clear t0 t1 t2 ha hb
  go_enter Tryz.func38, Tryz.ntmps38
  go_wp2_with (first
    | (go_at_call 70; refine hR.mono ?_; clear hR; rintro e w2 ⟨rfl, hb2⟩; have HBW : Hid (Below w.heap.size w w2) := HBX.out.trans (hb2.mono (by simp; omega)); have U0 := keepb T0.out hb2; have U1 := keepb T1.out hb2; obtain ⟨⟨s0, s1, s2, s3, s4, s5, s6, s7⟩, _⟩ := cells8 U0.out; obtain ⟨⟨z0, z1, z2, z3, z4, z5, z6, z7⟩, _⟩ := cells8 U1.out; clear hb2; have hO := eqOut_any v a b n c1 c2 l x y w2 hl (HA.out.below HBW.out (Nat.le_refl _)) (HB.out.below HBW.out (Nat.le_refl _)))
    | (go_at_call 71; refine hO.mono ?_; clear hO; rintro e w3 ⟨rfl, hb3⟩; have HBV : Hid (Below w.heap.size w w3) := HBW.out.trans (hb3.mono HBW.out.size); clear s0 s1 s2 s3 s4 s5 s6 s7 z0 z1 z2 z3 z4 z5 z6 z7; have V0 := keepb U0.out hb3; have V1 := keepb U1.out hb3; obtain ⟨⟨s0, s1, s2, s3, s4, s5, s6, s7⟩, _⟩ := cells8 V0.out; obtain ⟨⟨z0, z1, z2, z3, z4, z5, z6, z7⟩, _⟩ := cells8 V1.out; clear hb3))
  go_ret
  exact ⟨rfl, HBV.out⟩

set_option maxHeartbeats 4000000 in
theorem eqCs_any (a b : Option Addr) (n c1 c2 : Nat) (cs : List Co) (w : World) (hl : n ≤ 1048576) (hk : ∀ j, j < n → (cs.getD j C0).l.length ≤ 1048576) (ha : CAt w a n cs) (hb : CAt w b n cs) :
    Calls Tryz.prog 14 #[.slice a n c1, .slice b n c2] w fun e w' => e = .returned (.bool true) ∧ Below w.heap.size w w' := by
  have HA : Hid (CAt w a n cs) := ha
  have HB : Hid (CAt w b n cs) := hb
  have HKL : Hid (∀ j, j < n → (cs.getD j C0).l.length ≤ 1048576) := hk
  clear ha hb hk
  go_enter Tryz.func14, Tryz.ntmps14
  go_wp2
  go_loopw [5] (fun i wr => ∃ k : Nat, k ≤ n ∧ i = .int .i64 k ∧ Below w.heap.size w wr) (fun i _ => n - (intOf i).toNat)
  case atStart => exact ⟨0, Nat.zero_le _, rfl, Below.refl _ _⟩
  case round =>
    obtain ⟨k, hk, rfl, hbel⟩ := hrel
    by_cases hlt : k < n
    · rcases HA.out.2 with h0 | ⟨b0, o0, e0, l0, d0⟩
      · omega
      subst e0
      rcases HB.out.2 with h0 | ⟨b1, o1, e1, l1, d1⟩
      · omega
      subst e1
      obtain ⟨o, ho⟩ : ∃ o, o = cs.getD k C0 := ⟨_, rfl⟩
      obtain ⟨ka, kc, p0, p4, p5⟩ := d0 k hlt
      obtain ⟨ja, jc, q0, q4, q5⟩ := d1 k hlt
      have hol := HKL.out k hlt
      rw [← ho] at p0 p5 q0 q5 hol
      obtain ⟨op, oq, ov, ol, ox, oy, oh, om⟩ := o
      obtain ⟨x0, x1, x2, x3, x4, x5, x6, x7⟩ := p0.below hbel l0
      obtain ⟨y0, y1, y2, y3, y4, y5, y6, y7⟩ := q0.below hbel l1
      simp only at x0 x1 x2 x3 x4 x5 x6 x7 y0 y1 y2 y3 y4 y5 y6 y7 hol p5 q5
      have hki : (k : Int) < (n : Int) := by omega
      have hw0 : b0 < wr.heap.size := Nat.lt_of_lt_of_le l0 hbel.size
      have hw1 : b1 < wr.heap.size := Nat.lt_of_lt_of_le l1 hbel.size
      have hcall : Calls Tryz.prog 38 #[.agg #[.int .i64 op, .int .i64 oq, .int .i64 ov, .slice ka ol.length kc, .int .i64 ox, .int .i64 oy, .int .i64 oh, .bool om], .agg #[.int .i64 op, .int .i64 oq, .int .i64 ov, .slice ja ol.length jc, .int .i64 ox, .int .i64 oy, .int .i64 oh, .bool om]] wr.drew fun e w' => e = .returned (.bool true) ∧ Below wr.heap.size wr w' :=
        (eqCoin_any op oq ov ka ja ol.length kc jc ol ox oy oh om _ hol ((p5.below hbel (Nat.le_refl _)).below (Below.refl _ _).drew (Nat.le_refl _)) ((q5.below hbel (Nat.le_refl _)).below (Below.refl _ _).drew (Nat.le_refl _))).mono fun e w' h => ⟨h.1, (Below.refl _ _).drew.trans h.2⟩
      clear ho d0 d1 p0 p4 p5 q0 q4 q5 hol
      go_wp2
      go_region_held3 (fun w' => (w'.cell? ⟨b0, o0 + k * 8, none⟩ = some (.int .i64 op) ∧ w'.cell? ⟨b0, o0 + k * 8 + 1, none⟩ = some (.int .i64 oq) ∧ w'.cell? ⟨b0, o0 + k * 8 + 2, none⟩ = some (.int .i64 ov) ∧ w'.cell? ⟨b0, o0 + k * 8 + 3, none⟩ = some (.slice ka ol.length kc) ∧ w'.cell? ⟨b0, o0 + k * 8 + 4, none⟩ = some (.int .i64 ox) ∧ w'.cell? ⟨b0, o0 + k * 8 + 5, none⟩ = some (.int .i64 oy) ∧ w'.cell? ⟨b0, o0 + k * 8 + 6, none⟩ = some (.int .i64 oh) ∧ w'.cell? ⟨b0, o0 + k * 8 + 7, none⟩ = some (.bool om)) ∧ w'.cell? ⟨b1, o1 + k * 8, none⟩ = some (.int .i64 op) ∧ w'.cell? ⟨b1, o1 + k * 8 + 1, none⟩ = some (.int .i64 oq) ∧ w'.cell? ⟨b1, o1 + k * 8 + 2, none⟩ = some (.int .i64 ov) ∧ w'.cell? ⟨b1, o1 + k * 8 + 3, none⟩ = some (.slice ja ol.length jc) ∧ w'.cell? ⟨b1, o1 + k * 8 + 4, none⟩ = some (.int .i64 ox) ∧ w'.cell? ⟨b1, o1 + k * 8 + 5, none⟩ = some (.int .i64 oy) ∧ w'.cell? ⟨b1, o1 + k * 8 + 6, none⟩ = some (.int .i64 oh) ∧ w'.cell? ⟨b1, o1 + k * 8 + 7, none⟩ = some (.bool om)) (go_keep)
        (first | (go_at_call 38; refine hcall.mono ?_; rintro e w3 ⟨rfl, hb3⟩; have z0 := (hb3.cell (p := ⟨b0, o0 + k * 8, none⟩) hw0).trans x0; have z1 := (hb3.cell (p := ⟨b0, o0 + k * 8 + 1, none⟩) hw0).trans x1; have z2 := (hb3.cell (p := ⟨b0, o0 + k * 8 + 2, none⟩) hw0).trans x2; have z3 := (hb3.cell (p := ⟨b0, o0 + k * 8 + 3, none⟩) hw0).trans x3; have z4 := (hb3.cell (p := ⟨b0, o0 + k * 8 + 4, none⟩) hw0).trans x4; have z5 := (hb3.cell (p := ⟨b0, o0 + k * 8 + 5, none⟩) hw0).trans x5; have z6 := (hb3.cell (p := ⟨b0, o0 + k * 8 + 6, none⟩) hw0).trans x6; have z7 := (hb3.cell (p := ⟨b0, o0 + k * 8 + 7, none⟩) hw0).trans x7; have v0 := (hb3.cell (p := ⟨b1, o1 + k * 8, none⟩) hw1).trans y0; have v1 := (hb3.cell (p := ⟨b1, o1 + k * 8 + 1, none⟩) hw1).trans y1; have v2 := (hb3.cell (p := ⟨b1, o1 + k * 8 + 2, none⟩) hw1).trans y2; have v3 := (hb3.cell (p := ⟨b1, o1 + k * 8 + 3, none⟩) hw1).trans y3; have v4 := (hb3.cell (p := ⟨b1, o1 + k * 8 + 4, none⟩) hw1).trans y4; have v5 := (hb3.cell (p := ⟨b1, o1 + k * 8 + 5, none⟩) hw1).trans y5; have v6 := (hb3.cell (p := ⟨b1, o1 + k * 8 + 6, none⟩) hw1).trans y6; have v7 := (hb3.cell (p := ⟨b1, o1 + k * 8 + 7, none⟩) hw1).trans y7))
      go_wp2
      go_roundw
      case rel => exact ⟨k + 1, by omega, by go_num, hbel.trans (hb3.mono hbel.size)⟩
      case measure => simp [intOf]; omega
    · go_wp2
      go_ret
      exact ⟨rfl, hbel⟩

end Go.Proofs.YtjgilpkkfpbefaaGreatDoor

namespace Go.Proofs.YtjgilpkkfpbefaaGreatDoor
open Go.RowKit Go.Maps Go.WideMaps

theorem Chg.refl (w : World) (lo hi : Nat) : Chg w w lo hi := ⟨rfl, rfl, rfl, Nat.le_refl _, fun _ _ _ => rfl⟩
theorem Chg.setCell {w W : World} {lo hi g t : Nat} (h : Chg w W lo hi) (hg : lo ≤ g ∧ g < hi) (u : Value) : Chg w (W.setCell ⟨g, t, none⟩ u) lo hi :=
  ⟨h.os, h.tape, h.output, by simpa using h.size, fun b hb ho => (Below.heap_setCell _ ⟨g, t, none⟩ u b (show b ≠ g by omega)).trans (h.block b hb ho)⟩

/-- The eight cells of a coin in a row. -/
def CellsC (xs : List Value) (j : Nat) (c : Co) (u : Value) : Prop :=
  xs[j * 8]? = some (.int .i64 c.p) ∧ xs[j * 8 + 1]? = some (.int .i64 c.q) ∧ xs[j * 8 + 2]? = some (.int .i64 c.v) ∧ xs[j * 8 + 3]? = some (u) ∧ xs[j * 8 + 4]? = some (.int .i64 c.x) ∧ xs[j * 8 + 5]? = some (.int .i64 c.y) ∧ xs[j * 8 + 6]? = some (.int .i64 c.h) ∧ xs[j * 8 + 7]? = some (.bool c.m)

/-- Coins whose row and whose keys' rows lie in blocks from lo on and below hi, no two in one. -/
structure COwn (w : World) (lo hi : Nat) (v : Value) (n : Nat) (f : Nat → Co) (kv : Nat → Value) : Prop where
  row : ∃ xs, w.ownsRow lo 86 8 v n xs ∧ ∀ j, j < n → CellsC xs j (f j) (kv j)
  top : ∀ b, v.ownBlock = some b → b < hi
  keys : ∀ j, j < n → w.ownsRow lo 2 1 (kv j) (f j).l.length (ints (f j).l) ∧ ∀ b, (kv j).ownBlock = some b → b < hi
  apart : ∀ i j, i < j → j < n → ∀ b, (kv i).ownBlock = some b → (kv j).ownBlock ≠ some b

theorem COwn.below {w w' : World} {lo hi n : Nat} {v : Value} {f : Nat → Co} {kv : Nat → Value} (h : COwn w lo hi v n f kv) (hb : Below w.heap.size w w') : COwn w' lo hi v n f kv := by
  obtain ⟨xs, h1, h2⟩ := h.row
  exact ⟨⟨xs, h1.kept (grown_of_below hb) (by cases Value.ownBlock v <;> simp), h2⟩, h.top, fun j hj => ⟨(h.keys j hj).1.kept (grown_of_below hb) (by cases Value.ownBlock (kv j) <;> simp), (h.keys j hj).2⟩, h.apart⟩
theorem COwn.chg {w w' : World} {lo hi n lo' hi' : Nat} {v : Value} {f : Nat → Co} {kv : Nat → Value} (h : COwn w lo hi v n f kv) (hc : Chg w w' lo' hi') (hd : hi ≤ lo' ∨ hi' ≤ lo) : COwn w' lo hi v n f kv := by
  obtain ⟨xs, h1, h2⟩ := h.row
  refine ⟨⟨xs, hc.row h1 fun k hk => ?_, h2⟩, h.top, fun j hj => ⟨hc.row (h.keys j hj).1 fun k hk => ?_, (h.keys j hj).2⟩, h.apart⟩
  · have a := h.top k hk
    have b := (h1.lt k hk).1
    omega
  · have a := (h.keys j hj).2 k hk
    have b := ((h.keys j hj).1.lt k hk).1
    omega
theorem COwn.mono {w : World} {lo hi hi' n : Nat} {v : Value} {f : Nat → Co} {kv : Nat → Value} (h : COwn w lo hi v n f kv) (hh : hi ≤ hi') : COwn w lo hi' v n f kv :=
  ⟨h.row, fun b hb => Nat.lt_of_lt_of_le (h.top b hb) hh, fun j hj => ⟨(h.keys j hj).1, fun b hb => Nat.lt_of_lt_of_le ((h.keys j hj).2 b hb) hh⟩, h.apart⟩

theorem COwn.cells {w : World} {lo hi n g cap : Nat} {f : Nat → Co} {kv : Nat → Value} (h : COwn w lo hi (.slice (some ⟨g, 0, none⟩) n cap) n f kv) {j : Nat} (hj : j < n) {c : Co} (hc : f j = c) {u : Value} (hu : kv j = u) :
    (w.cell? ⟨g, j * 8, none⟩ = some (.int .i64 c.p) ∧ w.cell? ⟨g, j * 8 + 1, none⟩ = some (.int .i64 c.q) ∧ w.cell? ⟨g, j * 8 + 2, none⟩ = some (.int .i64 c.v) ∧ w.cell? ⟨g, j * 8 + 3, none⟩ = some (u) ∧ w.cell? ⟨g, j * 8 + 4, none⟩ = some (.int .i64 c.x) ∧ w.cell? ⟨g, j * 8 + 5, none⟩ = some (.int .i64 c.y) ∧ w.cell? ⟨g, j * 8 + 6, none⟩ = some (.int .i64 c.h) ∧ w.cell? ⟨g, j * 8 + 7, none⟩ = some (.bool c.m)) ∧ (w.frozen? ⟨g, j * 8, none⟩ = false ∧ w.frozen? ⟨g, j * 8 + 1, none⟩ = false ∧ w.frozen? ⟨g, j * 8 + 2, none⟩ = false ∧ w.frozen? ⟨g, j * 8 + 3, none⟩ = false ∧ w.frozen? ⟨g, j * 8 + 4, none⟩ = false ∧ w.frozen? ⟨g, j * 8 + 5, none⟩ = false ∧ w.frozen? ⟨g, j * 8 + 6, none⟩ = false ∧ w.frozen? ⟨g, j * 8 + 7, none⟩ = false) := by
  obtain ⟨xs, h1, h2⟩ := h.row
  have h3 := h2 j hj
  rw [hc, hu] at h3
  obtain ⟨a0, a1, a2, a3, a4, a5, a6, a7⟩ := h3
  have hl := h1.1
  exact ⟨⟨(h1.cellAt (j * 8) (by omega)).trans a0, (h1.cellAt (j * 8 + 1) (by omega)).trans a1, (h1.cellAt (j * 8 + 2) (by omega)).trans a2, (h1.cellAt (j * 8 + 3) (by omega)).trans a3, (h1.cellAt (j * 8 + 4) (by omega)).trans a4, (h1.cellAt (j * 8 + 5) (by omega)).trans a5, (h1.cellAt (j * 8 + 6) (by omega)).trans a6, (h1.cellAt (j * 8 + 7) (by omega)).trans a7⟩, h1.frozenAt _, h1.frozenAt _, h1.frozenAt _, h1.frozenAt _, h1.frozenAt _, h1.frozenAt _, h1.frozenAt _, h1.frozenAt _⟩

end Go.Proofs.YtjgilpkkfpbefaaGreatDoor

namespace Go.Proofs.YtjgilpkkfpbefaaGreatDoor
open Go.RowKit Go.Maps Go.WideMaps

set_option maxRecDepth 20000 in
set_option maxHeartbeats 2000000 in
theorem l2FaultAt_any (P q n cap : Nat) (a : Option Addr) (l : List Int) (x y : Int) (w : World) (hl : n ≤ 1048576) (hI : IAt w a n l) (hPl : P < w.heap.size) (p0 : w.cell? ⟨P, q, none⟩ = some (.slice a n cap)) (p1 : w.cell? ⟨P, q + 1, none⟩ = some (.int .i64 x)) (p2 : w.cell? ⟨P, q + 2, none⟩ = some (.int .i64 y)) :
    Calls Tryz.prog 73 #[.pointer (some ⟨P, q, none⟩)] w fun e w' => e = .returned (.int .i64 (ruleR l x y)) ∧ Below w.heap.size w w' := by
  have HI : Hid (IAt w a n l) := hI
  have HN : Hid (l.length = n) := hI.1
  obtain ⟨b1, hb1⟩ : ∃ b, b = inB n 1 3 := ⟨_, rfl⟩
  obtain ⟨kb, hkb⟩ : ∃ b, b = inB x 1 n := ⟨_, rfl⟩
  obtain ⟨kc, hkc⟩ : ∃ b, b = inB y 0 999 := ⟨_, rfl⟩
  have hW1 : ∀ v, Calls Tryz.prog 43 #[.int .i64 n, .int .i64 1, .int .i64 3] v fun e w' => e = .returned (.bool b1) ∧ w' = v := fun v => by rw [hb1]; exact l1In_any _ _ _ v
  have hW2 : ∀ v, Calls Tryz.prog 43 #[.int .i64 x, .int .i64 1, .int .i64 n] v fun e w' => e = .returned (.bool kb) ∧ w' = v := fun v => by rw [hkb]; exact l1In_any _ _ _ v
  have hW3 : ∀ v, Calls Tryz.prog 24 #[.int .i64 y] v fun e w' => e = .returned (.bool kc) ∧ w' = v := fun v => by rw [hkc]; exact l2Height_any _ v
  have HB1 : Hid (b1 = inB n 1 3) := hb1
  have HKB : Hid (kb = inB x 1 n) := hkb
  have HKC : Hid (kc = inB y 0 999) := hkc
  obtain ⟨r, hr⟩ : ∃ r, r = ruleR l x y := ⟨_, rfl⟩
  rw [← hr]
  have HR : Hid (r = ruleR l x y) := hr
  clear hI hb1 hkb hkc hr
  cases b1
  · obtain rfl : r = 2 := by rw [HR.out]; exact ruleR_many HN.out HB1.out.symm
    go_enter Tryz.func73, Tryz.ntmps73
    go_wp2_with (go_at_call 43; refine (hW1 _).mono ?_; rintro e w' ⟨rfl, hw⟩; have hw2 := hw.symm; subst hw2)
    go_ret
    exact ⟨rfl, Below.refl _ _⟩
  · go_enter Tryz.func73, Tryz.ntmps73
    go_wp2_with (go_at_call 43; refine (hW1 _).mono ?_; rintro e w' ⟨rfl, hw⟩; have hw2 := hw.symm; subst hw2)
    go_loop [4] (fun i => ∃ k : Nat, k ≤ n ∧ i = .int .i64 k ∧ Hid (allK (l.take k) = true)) (fun i => n - (intOf i).toNat)
    case atStart => exact ⟨0, Nat.zero_le _, rfl, by show _ = _; simp [allK]⟩
    case round =>
      obtain ⟨k, hk, rfl, HT⟩ := hrel
      by_cases hlt : k < n
      · rcases HI.out.2 with h0 | ⟨b0, o0, e0, l0, d0⟩
        · omega
        subst e0
        obtain ⟨s, hs⟩ : ∃ s, s = l.getD k 0 := ⟨_, rfl⟩
        have x0 := d0 k hlt
        rw [← hs] at x0
        have HS : Hid (s = l.getD k 0) := hs
        obtain ⟨ks, hks⟩ : ∃ b, b = inB s 1 999 := ⟨_, rfl⟩
        have hkey : ∀ v, Calls Tryz.prog 42 #[.int .i64 s] v fun e w' => e = .returned (.bool ks) ∧ w' = v := fun v => by rw [hks]; exact l1Key_any s v
        have HKS : Hid (ks = inB s 1 999) := hks
        clear hs d0 hks
        have hki : (k : Int) < (n : Int) := by omega
        cases ks
        · obtain rfl : r = 3 := by
            rw [HR.out]
            refine ruleR_range HN.out HB1.out.symm (.inl (allK_pre (pre := l.take (k + 1)) (List.take_prefix _ _) ?_))
            rw [take_next HN.out hlt HS.out]; exact allK_bad HKS.out.symm
          go_wp2_with (go_at_call 42; refine (hkey _).mono ?_; rintro e w' ⟨rfl, hw⟩; have hw2 := hw.symm; subst hw2)
          go_ret
          exact ⟨rfl, Below.refl _ _⟩
        · go_wp2_with (go_at_call 42; refine (hkey _).mono ?_; rintro e w' ⟨rfl, hw⟩; have hw2 := hw.symm; subst hw2)
          go_round
          case rel => exact ⟨k + 1, by omega, by go_num, by show _ = _; rw [take_next HN.out hlt HS.out]; exact allK_snoc HT.out HKS.out.symm⟩
          case measure => simp [intOf]; omega
      · have HALL : Hid (allK l = true) := by have := HT.out; rw [take_all HN.out hlt] at this; exact this
        clear HT
        cases kb
        · obtain rfl : r = 3 := by rw [HR.out]; exact ruleR_range HN.out HB1.out.symm (.inr (.inl HKB.out.symm))
          go_wp2_with (go_at_call 43; refine (hW2 _).mono ?_; rintro e w' ⟨rfl, hw⟩; have hw2 := hw.symm; subst hw2)
          go_ret
          exact ⟨rfl, Below.refl _ _⟩
        · cases kc
          · obtain rfl : r = 3 := by rw [HR.out]; exact ruleR_range HN.out HB1.out.symm (.inr (.inr HKC.out.symm))
            go_wp2_with (first | (go_at_call 43; refine (hW2 _).mono ?_; rintro e w' ⟨rfl, hw⟩; have hw2 := hw.symm; subst hw2) | (go_at_call 24; refine (hW3 _).mono ?_; rintro e w' ⟨rfl, hw⟩; have hw2 := hw.symm; subst hw2))
            go_ret
            exact ⟨rfl, Below.refl _ _⟩
          · go_wp2_with (first | (go_at_call 43; refine (hW2 _).mono ?_; rintro e w' ⟨rfl, hw⟩; have hw2 := hw.symm; subst hw2) | (go_at_call 24; refine (hW3 _).mono ?_; rintro e w' ⟨rfl, hw⟩; have hw2 := hw.symm; subst hw2))
            go_loopw [5] (fun i wr => ∃ j : Nat, j + 1 ≤ n ∧ i = .int .i64 ((j : Int) + 1) ∧ Hid (riseB 0 (l.take (j + 1)) = true) ∧ Below w.heap.size w wr) (fun i _ => n - (intOf i).toNat)
            case atStart => exact ⟨0, by have := inB_true.1 HB1.out.symm; omega, by go_num, riseB_one HN.out HB1.out.symm HALL.out, Below.refl _ _⟩
            case round =>
              obtain ⟨j, hj, rfl, HT, hbel⟩ := hrel
              by_cases hlt2 : j + 1 < n
              · rcases HI.out.2 with h0 | ⟨b0, o0, e0, l0, d0⟩
                · omega
                subst e0
                obtain ⟨s, hs⟩ : ∃ s, s = l.getD (j + 1) 0 := ⟨_, rfl⟩
                obtain ⟨t, ht⟩ : ∃ t, t = l.getD j 0 := ⟨_, rfl⟩
                have x0 := (hbel.cell (p := ⟨b0, o0 + (j + 1), none⟩) l0).trans (d0 (j + 1) hlt2)
                have x1 := (hbel.cell (p := ⟨b0, o0 + j, none⟩) l0).trans (d0 j (by omega))
                rw [← hs] at x0
                rw [← ht] at x1
                have HS : Hid (s = l.getD (j + 1) 0) := hs
                have HTT : Hid (t = l.getD j 0) := ht
                clear hs ht d0
                have y0 := (hbel.cell (p := ⟨P, q, none⟩) hPl).trans p0
                have hki : (j : Int) + 1 < (n : Int) := by omega
                have hkj : (j : Int) < (n : Int) := by omega
                by_cases hst : s ≤ t
                · obtain rfl : r = 1 := by
                    rw [HR.out]
                    refine ruleR_form HN.out HB1.out.symm HALL.out HKB.out.symm HKC.out.symm (riseB_pre (pre := l.take (j + 1 + 1)) (List.take_prefix _ _) ?_)
                    rw [take_next HN.out hlt2 HS.out, riseB_snoc, lastK_take HN.out (by omega) HTT.out, decide_eq_false (by omega), Bool.and_false]
                  go_wp2
                  go_quiet (fail)
                  go_wp2
                  go_ret
                  exact ⟨rfl, hbel.trans (Joins.below_draws _ _ _)⟩
                · go_wp2
                  go_quiet (fail)
                  go_wp2
                  go_roundw
                  case rel => exact ⟨j + 1, by omega, by go_num, by show _ = _; rw [take_next HN.out hlt2 HS.out, riseB_snoc, lastK_take HN.out (by omega) HTT.out, HT.out, decide_eq_true (by omega)]; rfl, hbel.trans (Joins.below_draws _ _ _)⟩
                  case measure => simp [intOf]; omega
              · have y0 := (hbel.cell (p := ⟨P, q, none⟩) hPl).trans p0
                obtain rfl : r = 0 := by
                  have := HT.out
                  rw [take_all HN.out hlt2] at this
                  rw [HR.out]; exact ruleR_ok HN.out HB1.out.symm HALL.out HKB.out.symm HKC.out.symm this
                have hki : ¬ (j : Int) + 1 < (n : Int) := by omega
                go_wp2
                go_ret
                exact ⟨rfl, hbel⟩

set_option maxHeartbeats 400000 in
theorem l3Among_any (a : Option Addr) (n cap : Nat) (gs : List (Int × Int)) (p q : Int) (w : World) (hl : n ≤ maxLen) (hs : GAt w a n gs) :
    Calls Tryz.prog 48 #[.slice a n cap, .agg #[.int .i64 p, .int .i64 q]] w fun e w' => e = .returned (.bool (memB gs (p, q))) ∧ Below w.heap.size w w' := by
  unfold maxLen at hl
  obtain ⟨hn, hs⟩ := hs
  rcases hs with rfl | ⟨b, off, rfl, hb, hc⟩
  · obtain rfl : gs = [] := List.length_eq_zero_iff.1 hn
    go_enter Tryz.func48, Tryz.ntmps48
    go_wp2
    refine wp_loop_rounds 1 ?_
    rw [rounds_succ]
    go_wp2
    go_ret
    exact ⟨rfl, (Below.refl _ _).alloc (Nat.le_refl _) _⟩
  · have HN : Hid (gs.length = n) := hn
    clear hn
    go_enter Tryz.func48, Tryz.ntmps48
    go_wp2
    go_loopw [5] (fun i wr => ∃ k : Nat, k ≤ n ∧ i = .int .i64 k ∧ Hid ((p, q) ∉ gs.take k) ∧ wr.cell? ⟨w.heap.size, 0, none⟩ = some (.int .i64 p) ∧ wr.cell? ⟨w.heap.size, 1, none⟩ = some (.int .i64 q) ∧ Below w.heap.size w wr) (fun i _ => n - (intOf i).toNat)
    case atStart => exact ⟨0, Nat.zero_le _, rfl, by show (p, q) ∉ _; simp, by simp, by simp, (Below.refl _ _).alloc (Nat.le_refl _) _⟩
    case round =>
      obtain ⟨k, hk, rfl, hj, hp, hq, hbel⟩ := hrel
      by_cases hlt : k < n
      · obtain ⟨g, hg⟩ : ∃ g, g = gs.getD k G0 := ⟨_, rfl⟩
        have hcx := hc k hlt
        rw [← hg] at hcx
        obtain ⟨g1, g2⟩ := g
        have c0 := (hbel.cell (p := ⟨b, off + k * 2, none⟩) hb).trans hcx.1
        have c1 := (hbel.cell (p := ⟨b, off + k * 2 + 1, none⟩) hb).trans hcx.2
        have HG : Hid ((g1, g2) = gs.getD k G0) := hg
        clear hg hc hcx
        have hki : (k : Int) < (n : Int) := by omega
        by_cases h1 : g1 = p
        · have e1 : (g1 == p) = true := by simp [h1]
          have H1 : Hid (g1 = p) := h1
          clear h1
          by_cases h2 : g2 = q
          · have e2 : (g2 == q) = true := by simp [h2]
            have H2 : Hid (g2 = q) := h2
            clear h2
            go_wp2
            go_quiet (fail)
            go_wp2
            go_ret
            refine ⟨?_, hbel.trans (Joins.below_draws _ _ _)⟩
            have hm : memB gs (p, q) = true := by
              unfold memB
              rw [num_hit gs (p, q) G0 k (by rw [HN.out]; exact hlt) (by rw [← HG.out, H1.out, H2.out]) hj.out]
              simp
            rw [hm]; rfl
          · have e2 : (g2 == q) = false := by simp [h2]
            have H2 : Hid (¬ (g1, g2) = (p, q)) := fun e => h2 (by simpa using congrArg Prod.snd e)
            clear h2
            go_wp2
            go_quiet (fail)
            go_wp2
            go_roundw
            case rel => exact ⟨k + 1, by omega, by go_num, signed_more HN.out hlt hj.out HG.out H2.out, by simpa using hp, by simpa using hq, hbel.trans (Joins.below_draws _ _ _)⟩
            case measure => simp [intOf]; omega
        · have e1 : (g1 == p) = false := by simp [h1]
          have H2 : Hid (¬ (g1, g2) = (p, q)) := fun e => h1 (by simpa using congrArg Prod.fst e)
          clear h1
          go_wp2
          go_quiet (fail)
          go_wp2
          go_roundw
          case rel => exact ⟨k + 1, by omega, by go_num, signed_more HN.out hlt hj.out HG.out H2.out, by simpa using hp, by simpa using hq, hbel.trans (Joins.below_draws _ _ _)⟩
          case measure => simp [intOf]; omega
      · go_wp2
        go_ret
        refine ⟨?_, hbel⟩
        have hm : memB gs (p, q) = false := by
          unfold memB
          rw [(num_zero gs (p, q)).2 (by have := hj.out; rwa [List.take_of_length_le (by rw [HN.out]; omega)] at this)]
          rfl
        rw [hm]; rfl

def refB (r : Int × Int) : Bool := inB r.1 1 60 && inB r.2 0 3

theorem l3Ref_any (a b : Int) (w : World) : Calls Tryz.prog 45 #[.agg #[.int .i64 a, .int .i64 b]] w fun e w' => e = .returned (.bool (refB (a, b))) ∧ Below w.heap.size w w' := by
  obtain ⟨ka, hka⟩ : ∃ k, k = inB a 1 60 := ⟨_, rfl⟩
  obtain ⟨kb, hkb⟩ : ∃ k, k = inB b 0 3 := ⟨_, rfl⟩
  have hr : refB (a, b) = (ka && kb) := by rw [hka, hkb]; rfl
  have h1 : ∀ v, Calls Tryz.prog 43 #[.int .i64 a, .int .i64 1, .int .i64 60] v fun e w' => e = .returned (.bool ka) ∧ w' = v := fun v => by rw [hka]; exact l1In_any _ _ _ v
  have h2 : ∀ v, Calls Tryz.prog 43 #[.int .i64 b, .int .i64 0, .int .i64 3] v fun e w' => e = .returned (.bool kb) ∧ w' = v := fun v => by rw [hkb]; exact l1In_any _ _ _ v
  rw [hr]
  clear hka hkb hr
  have hbx : Below w.heap.size w (w.alloc (.cells #[.int .i64 a, .int .i64 b] 81)) := below_box _
  cases ka <;> cases kb
  all_goals
    go_enter Tryz.func45, Tryz.ntmps45
    go_wp2_with (go_at_call 43; (first | (refine (h1 _).mono ?_; clear h1) | (refine (h2 _).mono ?_; clear h2)); rintro e w' ⟨rfl, hw⟩; have hw2 := hw.symm; subst hw2)
    go_ret
    exact ⟨rfl, hbx⟩

def outsR : List Ou → Int
  | [] => 0
  | o :: t => if inB o.v 1 1000000 = false then 3 else if ruleR o.l o.x o.y ≠ 0 then ruleR o.l o.x o.y else outsR t

theorem drop_next {os : List Ou} {n k : Nat} (hn : os.length = n) (hk : k < n) {o : Ou} (ho : o = os.getD k O0) : os.drop k = o :: os.drop (k + 1) := by
  rw [List.drop_eq_getElem_cons (show k < os.length by omega)]
  congr 1
  rw [ho, List.getD, List.getElem?_eq_getElem (by omega)]
  rfl
theorem drop_none {os : List Ou} {n k : Nat} (hn : os.length = n) (hk : ¬ k < n) : outsR (os.drop k) = 0 := by rw [List.drop_of_length_le (by omega)]; rfl

def joinR (k : Int) (os : List Ou) : Int := if outsR os ≠ 0 then outsR os else if k = 1 ∧ (os.getD 0 O0).v < 100 then 8 else 0

set_option maxHeartbeats 1000000 in
theorem l3Outs_any (P m d : Nat) (oa : Option Addr) (os : List Ou) (k : Int) (w : World) (hm1 : 1 ≤ m) (hm : m ≤ 1048576) (hk : ∀ j, j < m → (os.getD j O0).l.length ≤ 1048576) (hO : OAt w oa m os) (hPl : P < w.heap.size) (hK : w.cell? ⟨P, 0, none⟩ = some (.int .i64 k)) (hS : w.cell? ⟨P, 3, none⟩ = some (.slice oa m d)) :
    Calls Tryz.prog 49 #[.pointer (some ⟨P, 0, none⟩)] w fun e w' => e = .returned (.int .i64 (joinR k os)) ∧ Below w.heap.size w w' := by
  have HO : Hid (OAt w oa m os) := hO
  have HN : Hid (os.length = m) := hO.1
  have HKL : Hid (∀ j, j < m → (os.getD j O0).l.length ≤ 1048576) := hk
  obtain ⟨r, hr⟩ : ∃ r, r = joinR k os := ⟨_, rfl⟩
  rw [← hr]
  have HR : Hid (r = joinR k os) := hr
  clear hO hk hr
  go_enter Tryz.func49, Tryz.ntmps49
  go_wp2
  go_loopw [3] (fun i wr => ∃ j : Nat, j ≤ m ∧ i = .int .i64 j ∧ Below w.heap.size w wr ∧ Hid (outsR os = outsR (os.drop j))) (fun i _ => m - (intOf i).toNat)
  case atStart => exact ⟨0, Nat.zero_le _, rfl, Below.refl _ _, by show _ = _; simp⟩
  case round =>
    obtain ⟨j, hj, rfl, hbel, HT⟩ := hrel
    have y0 := (hbel.cell (p := ⟨P, 0, none⟩) hPl).trans hK
    have y3 := (hbel.cell (p := ⟨P, 3, none⟩) hPl).trans hS
    rcases HO.out.2 with h0 | ⟨b, off, e0, l0, d0⟩
    · omega
    subst e0
    by_cases hlt : j < m
    · obtain ⟨o, ho⟩ : ∃ o, o = os.getD j O0 := ⟨_, rfl⟩
      obtain ⟨ka, kn, kc, p0, p1, p2, p3, p4, p5⟩ := d0 j hlt
      have hol := HKL.out j hlt
      rw [← ho] at p0 p2 p3 p5 hol
      have HS : Hid (o = os.getD j O0) := ho
      obtain ⟨ov, ol, ox, oy⟩ := o
      obtain rfl := p5.1
      have x0 := (hbel.cell (p := ⟨b, off + j * 4, none⟩) l0).trans p0
      have x1 := (hbel.cell (p := ⟨b, off + j * 4 + 1, none⟩) l0).trans p1
      have x2 := (hbel.cell (p := ⟨b, off + j * 4 + 2, none⟩) l0).trans p2
      have x3 := (hbel.cell (p := ⟨b, off + j * 4 + 3, none⟩) l0).trans p3
      obtain ⟨cd, hcd⟩ : ∃ c, c = ruleR ol ox oy := ⟨_, rfl⟩
      have hlf := l2FaultAt_any b (off + j * 4 + 1) ol.length kc ka ol ox oy wr hol (p5.below hbel (Nat.le_refl _)) (Nat.lt_of_lt_of_le l0 hbel.size) x1 x2 x3
      rw [← hcd] at hlf
      have HCD : Hid (cd = ruleR ol ox oy) := hcd
      obtain ⟨kv, hkv⟩ : ∃ k, k = inB ov 1 1000000 := ⟨_, rfl⟩
      have hin : ∀ v, Calls Tryz.prog 43 #[.int .i64 ov, .int .i64 1, .int .i64 1000000] v fun e w' => e = .returned (.bool kv) ∧ w' = v := fun v => by rw [hkv]; exact l1In_any _ _ _ v
      have HKV : Hid (kv = inB ov 1 1000000) := hkv
      simp only at x0 x2 x3
      have HNX : Hid (os.drop j = (⟨ov, ol, ox, oy⟩ : Ou) :: os.drop (j + 1)) := drop_next HN.out hlt HS.out
      clear ho d0 p0 p1 p2 p3 p4 p5 hol hcd hkv x1
      have hki : (j : Int) < (m : Int) := by omega
      cases kv
      · obtain rfl : r = 3 := by rw [HR.out, joinR, HT.out, HNX.out, outsR, if_pos HKV.out.symm]; rfl
        go_wp2_with (go_at_call 43; refine (hin _).mono ?_; rintro e w' ⟨rfl, hw⟩; have hw2 := hw.symm; subst hw2)
        go_ret
        exact ⟨rfl, hbel⟩
      · by_cases hc0 : cd = 0
        · have HTN : Hid (outsR os = outsR (os.drop (j + 1))) := by
            show _ = _
            rw [HT.out, HNX.out, outsR, if_neg (by rw [← HKV.out]; simp), if_neg (by rw [← HCD.out, hc0]; simp)]
          go_wp2_with (first | (go_at_call 43; refine (hin _).mono ?_; rintro e w' ⟨rfl, hw⟩; have hw2 := hw.symm; subst hw2) | (go_at_call 73; refine hlf.mono ?_; rintro e w3 ⟨rfl, hb3⟩))
          go_roundw
          case rel => exact ⟨j + 1, by omega, by go_num, hbel.trans (hb3.mono hbel.size), HTN⟩
          case measure => simp [intOf]; omega
        · have e1 : outsR os = cd := by rw [HT.out, HNX.out, outsR, if_neg (by rw [← HKV.out]; simp), if_pos (by rw [← HCD.out]; exact hc0), ← HCD.out]
          obtain rfl : r = cd := by rw [HR.out, joinR, e1, if_pos hc0]
          clear e1
          go_wp2_with (first | (go_at_call 43; refine (hin _).mono ?_; rintro e w' ⟨rfl, hw⟩; have hw2 := hw.symm; subst hw2) | (go_at_call 73; refine hlf.mono ?_; rintro e w3 ⟨rfl, hb3⟩))
          go_ret
          exact ⟨rfl, hbel.trans (hb3.mono hbel.size)⟩
    · obtain ⟨ka, kn, kc, p0, _⟩ := d0 0 (by omega)
      obtain ⟨ov, hov⟩ : ∃ v, v = (os.getD 0 O0).v := ⟨_, rfl⟩
      rw [← hov] at p0
      simp only [Nat.zero_mul, Nat.add_zero] at p0
      have x0 := (hbel.cell (p := ⟨b, off, none⟩) l0).trans p0
      have HOV : Hid (ov = (os.getD 0 O0).v) := hov
      have HZ : Hid (outsR os = 0) := by show _ = _; rw [HT.out]; exact drop_none HN.out hlt
      clear d0 p0 hov
      have hmi : 0 < (m : Int) := by omega
      by_cases hk1 : k = 1
      · subst hk1
        by_cases hv : ov < 100
        · obtain rfl : r = 8 := by rw [HR.out, joinR, HZ.out, if_neg (by simp), if_pos ⟨rfl, by rw [← HOV.out]; exact hv⟩]
          go_wp2
          go_ret
          exact ⟨rfl, hbel⟩
        · obtain rfl : r = 0 := by rw [HR.out, joinR, HZ.out, if_neg (by simp), if_neg (by rw [← HOV.out]; intro h; exact hv h.2)]
          go_wp2
          go_ret
          exact ⟨rfl, hbel⟩
      · obtain rfl : r = 0 := by rw [HR.out, joinR, HZ.out, if_neg (by simp), if_neg (fun h => hk1 h.1)]
        have hkb : (k == 1) = false := by simpa using hk1
        go_wp2
        go_ret
        exact ⟨rfl, hbel⟩

set_option maxHeartbeats 400000 in
theorem l3Sum_any (P m d : Nat) (oa : Option Addr) (os : List Ou) (w : World) (hm : m ≤ 4) (hv : ∀ j, j < m → 1 ≤ (os.getD j O0).v ∧ (os.getD j O0).v ≤ 1000000) (hO : OAt w oa m os) (hS : w.cell? ⟨P, 3, none⟩ = some (.slice oa m d)) :
    Calls Tryz.prog 56 #[.pointer (some ⟨P, 0, none⟩)] w fun e w' => e = .returned (.int .i64 (os.map Ou.v).sum) ∧ w' = w := by
  have HO : Hid (OAt w oa m os) := hO
  have HN : Hid (os.length = m) := hO.1
  have HV : Hid (∀ j, j < m → 1 ≤ (os.getD j O0).v ∧ (os.getD j O0).v ≤ 1000000) := hv
  obtain ⟨r, hr⟩ : ∃ r, r = (os.map Ou.v).sum := ⟨_, rfl⟩
  rw [← hr]
  have HR : Hid (r = (os.map Ou.v).sum) := hr
  clear hO hv hr
  go_enter Tryz.func56, Tryz.ntmps56
  go_wp2
  go_loop [3, 4] (fun s i => ∃ j : Nat, j ≤ m ∧ i = .int .i64 j ∧ ∃ q : Int, s = .int .i64 q ∧ 0 ≤ q ∧ q ≤ 1000000 * j ∧ Hid (q = ((os.take j).map Ou.v).sum)) (fun _ i => m - (intOf i).toNat)
  case atStart => exact ⟨0, Nat.zero_le _, rfl, 0, rfl, by omega, by omega, by show _ = _; simp⟩
  case round =>
    obtain ⟨j, hj, rfl, q, rfl, hq0, hq1, HQ⟩ := hrel
    by_cases hlt : j < m
    · rcases HO.out.2 with h0 | ⟨b, off, e0, l0, d0⟩
      · omega
      subst e0
      obtain ⟨ka, kn, kc, p0, _⟩ := d0 j hlt
      have hvj := HV.out j hlt
      obtain ⟨ov, hov⟩ : ∃ v, v = (os.getD j O0).v := ⟨_, rfl⟩
      rw [← hov] at p0 hvj
      have HOV : Hid (ov = (os.getD j O0).v) := hov
      clear d0 hov
      have hki : (j : Int) < (m : Int) := by omega
      go_wp2
      go_round
      case rel =>
        refine ⟨j + 1, by omega, by go_num, _, rfl, by omega, by omega, ?_⟩
        show _ = _
        have e1 : os[j]? = some (os.getD j O0) := by rw [List.getD, List.getElem?_eq_getElem (by rw [HN.out]; exact hlt)]; rfl
        rw [take_more e1, List.map_append, List.sum_append, ← HQ.out, HOV.out]
        simp
      case measure => simp [intOf]; omega
    · have e1 : os.take j = os := List.take_of_length_le (by rw [HN.out]; omega)
      obtain rfl : r = q := by rw [HR.out, HQ.out, e1]
      clear e1
      go_wp2
      go_ret
      exact ⟨rfl, rfl⟩

end Go.Proofs.YtjgilpkkfpbefaaGreatDoor

namespace Go.Proofs.YtjgilpkkfpbefaaGreatDoor
open Go.RowKit Go.Maps Go.WideMaps

def refsR : List (Int × Int) → List (Int × Int) → Int
  | _, [] => 0
  | seen, r :: t => if refB r = false then 3 else if memB seen r = true then 7 else refsR (seen ++ [r]) t

def txR (k f : Int) (rs : List (Int × Int)) (os : List Ou) : Int :=
  if inB k 0 2 = false ∨ ¬ (k = 0 ↔ f = 0) then 1 else if k ≠ 0 ∧ inB f 1 999 = false then 3 else if inB rs.length 1 4 = false ∨ inB os.length 1 4 = false then 2
  else if refsR [] rs ≠ 0 then refsR [] rs else joinR k os

section
variable {k f : Int} {rs : List (Int × Int)} {os : List Ou} {n m : Nat}
theorem txR_form (h : inB k 0 2 = false ∨ ¬ (k = 0 ↔ f = 0)) : txR k f rs os = 1 := by unfold txR; rw [if_pos h]
theorem txR_range (h : inB k 0 2 = true) (h1 : k = 0 ↔ f = 0) (h2 : k ≠ 0) (h3 : inB f 1 999 = false) : txR k f rs os = 3 := by unfold txR; rw [if_neg (by simp [h, h1]), if_pos ⟨h2, h3⟩]
theorem txR_many (hn : rs.length = n) (hm : os.length = m) (h : inB k 0 2 = true) (h1 : k = 0 ↔ f = 0) (h2 : ¬ (k ≠ 0 ∧ inB f 1 999 = false)) (h3 : inB n 1 4 = false ∨ inB m 1 4 = false) : txR k f rs os = 2 := by unfold txR; rw [if_neg (by simp [h, h1]), if_neg h2, hn, hm, if_pos h3]
theorem txR_rest (hn : rs.length = n) (hm : os.length = m) (h : inB k 0 2 = true) (h1 : k = 0 ↔ f = 0) (h2 : ¬ (k ≠ 0 ∧ inB f 1 999 = false)) (h3 : inB n 1 4 = true) (h4 : inB m 1 4 = true) : txR k f rs os = if refsR [] rs ≠ 0 then refsR [] rs else joinR k os := by unfold txR; rw [if_neg (by simp [h, h1]), if_neg h2, hn, hm, if_neg (by simp [h3, h4])]

theorem rs_next (hn : rs.length = n) {j : Nat} (hj : j < n) {g : Int × Int} (hg : g = rs.getD j G0) : rs.drop j = g :: rs.drop (j + 1) ∧ rs.take (j + 1) = rs.take j ++ [g] := by
  have e1 : rs[j]? = some g := by rw [hg, List.getD, List.getElem?_eq_getElem (by omega)]; rfl
  refine ⟨?_, take_more e1⟩
  rw [List.drop_eq_getElem_cons (show j < rs.length by omega)]
  congr 1
  have := List.getElem?_eq_getElem (show j < rs.length by omega)
  rw [e1] at this
  simpa using this.symm
theorem refs_go (hn : rs.length = n) {j : Nat} (hj : j < n) {g : Int × Int} (hg : g = rs.getD j G0) (h : refsR [] rs = refsR (rs.take j) (rs.drop j)) (h1 : refB g = true) (h2 : memB (rs.take j) g = false) : Hid (refsR [] rs = refsR (rs.take (j + 1)) (rs.drop (j + 1))) := by
  show _ = _
  obtain ⟨e1, e2⟩ := rs_next hn hj hg
  rw [h, e1, refsR, if_neg (by simp [h1]), if_neg (by simp [h2]), e2]
theorem refs_bad (hn : rs.length = n) {j : Nat} (hj : j < n) {g : Int × Int} (hg : g = rs.getD j G0) (h : refsR [] rs = refsR (rs.take j) (rs.drop j)) (h1 : refB g = false) : refsR [] rs = 3 := by
  obtain ⟨e1, e2⟩ := rs_next hn hj hg
  rw [h, e1, refsR, if_pos h1]
theorem refs_taken (hn : rs.length = n) {j : Nat} (hj : j < n) {g : Int × Int} (hg : g = rs.getD j G0) (h : refsR [] rs = refsR (rs.take j) (rs.drop j)) (h1 : refB g = true) (h2 : memB (rs.take j) g = true) : refsR [] rs = 7 := by
  obtain ⟨e1, e2⟩ := rs_next hn hj hg
  rw [h, e1, refsR, if_neg (by simp [h1]), if_pos h2]
theorem refs_done (hn : rs.length = n) {j : Nat} (hj : ¬ j < n) (h : refsR [] rs = refsR (rs.take j) (rs.drop j)) : refsR [] rs = 0 := by
  rw [h, List.drop_of_length_le (by omega)]; rfl
end

set_option maxRecDepth 20000 in
set_option maxHeartbeats 4000000 in
theorem l3Fault_any (P n c m d : Nat) (ia oa : Option Addr) (k f : Int) (rs : List (Int × Int)) (os : List Ou) (w : World) (hn : n ≤ 1048576) (hm : m ≤ 1048576) (hc1 : n ≤ c) (hc2 : c ≤ maxLen) (hk : ∀ j, j < m → (os.getD j O0).l.length ≤ 1048576) (h : TxAt w ia n oa m rs os)
    (hP : w.heap[P]? = some (.cells #[.int .i64 k, .int .i64 f, .slice ia n c, .slice oa m d] 46 (0, 0))) :
    Calls Tryz.prog 23 #[.pointer (some ⟨P, 0, none⟩)] w fun e w' => e = .returned (.int .i64 (txR k f rs os)) ∧ Below w.heap.size w w' := by
  unfold maxLen at hc2
  obtain ⟨p0, p1, p2, p3, _⟩ := cells4 hP
  have hPl := lt_of_block hP
  have HP : Hid (w.heap[P]? = some (.cells #[.int .i64 k, .int .i64 f, .slice ia n c, .slice oa m d] 46 (0, 0))) := hP
  have HR : Hid (GAt w ia n rs) := h.r
  have HO : Hid (OAt w oa m os) := h.o
  have HN : Hid (rs.length = n) := h.r.1
  have HM : Hid (os.length = m) := h.o.1
  have HK : Hid (∀ j, j < m → (os.getD j O0).l.length ≤ 1048576) := hk
  obtain ⟨r, hr⟩ : ∃ r, r = txR k f rs os := ⟨_, rfl⟩
  rw [← hr]
  have HV : Hid (r = txR k f rs os) := hr
  obtain ⟨b1, hb1⟩ : ∃ b, b = inB k 0 2 := ⟨_, rfl⟩
  obtain ⟨bf, hbf⟩ : ∃ b, b = inB f 1 999 := ⟨_, rfl⟩
  obtain ⟨bn, hbn⟩ : ∃ b, b = inB n 1 4 := ⟨_, rfl⟩
  obtain ⟨bm, hbm⟩ : ∃ b, b = inB m 1 4 := ⟨_, rfl⟩
  have h1 : ∀ v, Calls Tryz.prog 43 #[.int .i64 k, .int .i64 0, .int .i64 2] v fun e w' => e = .returned (.bool b1) ∧ w' = v := fun v => by rw [hb1]; exact l1In_any _ _ _ v
  have h2 : ∀ v, Calls Tryz.prog 42 #[.int .i64 f] v fun e w' => e = .returned (.bool bf) ∧ w' = v := fun v => by rw [hbf]; exact l1Key_any _ v
  have h3 : ∀ v, Calls Tryz.prog 43 #[.int .i64 n, .int .i64 1, .int .i64 4] v fun e w' => e = .returned (.bool bn) ∧ w' = v := fun v => by rw [hbn]; exact l1In_any _ _ _ v
  have h4 : ∀ v, Calls Tryz.prog 43 #[.int .i64 m, .int .i64 1, .int .i64 4] v fun e w' => e = .returned (.bool bm) ∧ w' = v := fun v => by rw [hbm]; exact l1In_any _ _ _ v
  have HB1 : Hid (b1 = inB k 0 2) := hb1
  have HBF : Hid (bf = inB f 1 999) := hbf
  have HBN : Hid (bn = inB n 1 4) := hbn
  have HBM : Hid (bm = inB m 1 4) := hbm
  clear hP h hk hr hb1 hbf hbn hbm
  cases b1
  · obtain rfl : r = 1 := by rw [HV.out]; exact txR_form (.inl HB1.out.symm)
    go_enter Tryz.func23, Tryz.ntmps23
    go_wp2
    go_quiet (first | (go_at_call 43; refine Calls.quiet_of_same (h1 _)))
    go_wp2
    go_ret
    exact ⟨rfl, Joins.below_draws _ _ _⟩
  by_cases hiff : ¬ (k = 0 ↔ f = 0)
  · obtain rfl : r = 1 := by rw [HV.out]; exact txR_form (.inr hiff)
    by_cases hk0 : k = 0
    · have hf0 : ¬ f = 0 := fun e => hiff ⟨fun _ => e, fun _ => hk0⟩
      have hfb : (f == 0) = false := by simpa using hf0
      subst hk0
      go_enter Tryz.func23, Tryz.ntmps23
      go_wp2
      go_quiet (first | (go_at_call 43; refine Calls.quiet_of_same (h1 _)))
      go_wp2
      go_ret
      exact ⟨rfl, Joins.below_draws _ _ _⟩
    · have hf0 : f = 0 := Classical.not_not.1 fun e => hiff ⟨fun h => absurd h hk0, fun h => absurd h e⟩
      have hkb : (k == 0) = false := by simpa using hk0
      subst hf0
      go_enter Tryz.func23, Tryz.ntmps23
      go_wp2
      go_quiet (first | (go_at_call 43; refine Calls.quiet_of_same (h1 _)))
      go_wp2
      go_ret
      exact ⟨rfl, Joins.below_draws _ _ _⟩
  replace hiff : k = 0 ↔ f = 0 := Classical.not_not.1 hiff
  by_cases hrg : k ≠ 0 ∧ bf = false
  · obtain ⟨hk0, rfl⟩ := hrg
    obtain rfl : r = 3 := by rw [HV.out]; exact txR_range HB1.out.symm hiff hk0 HBF.out.symm
    have hkb : (k == 0) = false := by simpa using hk0
    have hfb : (f == 0) = false := by simpa using fun e => hk0 (hiff.2 e)
    have hf0 : ¬ f = 0 := fun e => hk0 (hiff.2 e)
    clear hiff
    go_enter Tryz.func23, Tryz.ntmps23
    go_wp2
    go_quiet (first | (go_at_call 43; refine Calls.quiet_of_same (h1 _)))
    go_wp2_with (first | (go_at_call 42; refine (h2 _).mono ?_; rintro e w' ⟨rfl, hw⟩; have hw2 := hw.symm; subst hw2))
    go_ret
    exact ⟨rfl, Joins.below_draws _ _ _⟩
  have HRG : Hid (¬ (k ≠ 0 ∧ inB f 1 999 = false)) := by show ¬ _; rw [← HBF.out]; exact hrg
  have HIF : Hid (k = 0 ↔ f = 0) := hiff
  by_cases hmn : bn = false ∨ bm = false
  · obtain rfl : r = 2 := by rw [HV.out]; exact txR_many HN.out HM.out HB1.out.symm HIF.out HRG.out (by rw [← HBN.out, ← HBM.out]; exact hmn)
    have hmn2 : bn = false ∨ bn = true ∧ bm = false := by rcases hmn with h | h <;> cases bn <;> simp_all
    clear hmn
    by_cases hk0 : k = 0
    · obtain rfl : f = 0 := hiff.1 hk0
      subst hk0
      clear hiff hrg
      rcases hmn2 with rfl | ⟨rfl, rfl⟩
      all_goals
        go_enter Tryz.func23, Tryz.ntmps23
        go_wp2
        go_quiet (first | (go_at_call 43; refine Calls.quiet_of_same (h1 _)))
        go_wp2_with (first | (go_at_call 43; (first | (with_reducible refine (h3 _).mono ?_; skip) | (with_reducible refine (h4 _).mono ?_; skip)); rintro e w' ⟨rfl, hw⟩; have hw2 := hw.symm; subst hw2))
        go_ret
        exact ⟨rfl, Joins.below_draws _ _ _⟩
    · have hkb : (k == 0) = false := by simpa using hk0
      have hf0 : ¬ f = 0 := fun e => hk0 (hiff.2 e)
      have hfb : (f == 0) = false := by simpa using hf0
      obtain rfl : bf = true := by cases bf; exact absurd ⟨hk0, rfl⟩ hrg; rfl
      clear hiff hrg
      rcases hmn2 with rfl | ⟨rfl, rfl⟩
      all_goals
        go_enter Tryz.func23, Tryz.ntmps23
        go_wp2
        go_quiet (first | (go_at_call 43; refine Calls.quiet_of_same (h1 _)))
        go_wp2_with (first | (go_at_call 42; refine (h2 _).mono ?_; rintro e w' ⟨rfl, hw⟩; have hw2 := hw.symm; subst hw2) | (go_at_call 43; (first | (with_reducible refine (h3 _).mono ?_; skip) | (with_reducible refine (h4 _).mono ?_; skip)); rintro e w' ⟨rfl, hw⟩; have hw2 := hw.symm; subst hw2))
        go_ret
        exact ⟨rfl, Joins.below_draws _ _ _⟩
  obtain rfl : bn = true := by cases bn <;> simp_all
  obtain rfl : bm = true := by cases bm <;> simp_all
  have HREST : Hid (r = if refsR [] rs ≠ 0 then refsR [] rs else joinR k os) := by show _ = _; rw [HV.out]; exact txR_rest HN.out HM.out HB1.out.symm HIF.out HRG.out HBN.out.symm HBM.out.symm
  have hn4 := inB_true.1 HBN.out.symm
  have hm4 := inB_true.1 HBM.out.symm
  clear hmn HV
  rcases (show (k = 0 ∧ f = 0) ∨ ((k == 0) = false ∧ (f == 0) = false ∧ ¬ k = 0 ∧ ¬ f = 0 ∧ bf = true) by
    by_cases hk0 : k = 0
    · exact .inl ⟨hk0, hiff.1 hk0⟩
    · have hf0 : ¬ f = 0 := fun e => hk0 (hiff.2 e)
      refine .inr ⟨by simpa using hk0, by simpa using hf0, hk0, hf0, ?_⟩
      cases bf
      · exact absurd ⟨hk0, rfl⟩ hrg
      · rfl) with ⟨rfl, rfl⟩ | ⟨hkb, hfb, hk0, hf0, rfl⟩
  all_goals
    clear hiff hrg
    go_enter Tryz.func23, Tryz.ntmps23
    go_wp2
    go_quiet (first | (go_at_call 43; refine Calls.quiet_of_same (h1 _)))
    go_wp2_with (first | (go_at_call 42; refine (h2 _).mono ?_; rintro e w' ⟨rfl, hw⟩; have hw2 := hw.symm; subst hw2) | (go_at_call 43; (first | (with_reducible refine (h3 _).mono ?_; skip) | (with_reducible refine (h4 _).mono ?_; skip)); rintro e w' ⟨rfl, hw⟩; have hw2 := hw.symm; subst hw2))
    clear h1 h2 h3 h4
    go_loopw [3] (fun i wr => ∃ j : Nat, j ≤ n ∧ i = .int .i64 j ∧ Below w.heap.size w wr ∧ Hid (refsR [] rs = refsR (rs.take j) (rs.drop j))) (fun i _ => n - (intOf i).toNat)
    case atStart => exact ⟨0, Nat.zero_le _, rfl, Joins.below_draws _ _ _, by show _ = _; simp⟩
    case round =>
      obtain ⟨j, hj, rfl, hbel, HT⟩ := hrel
      have y2 := (hbel.cell (p := ⟨P, 2, none⟩) hPl).trans p2
      by_cases hlt : j < n
      · rcases HR.out.2 with h0 | ⟨b, off, ha, hb, hc⟩
        · omega
        subst ha
        obtain ⟨g, hg⟩ : ∃ g, g = rs.getD j G0 := ⟨_, rfl⟩
        have hcx := hc j hlt
        rw [← hg] at hcx
        obtain ⟨g1, g2⟩ := g
        have c0 := (hbel.cell (p := ⟨b, off + j * 2, none⟩) hb).trans hcx.1
        have c1 := (hbel.cell (p := ⟨b, off + j * 2 + 1, none⟩) hb).trans hcx.2
        have HG : Hid ((g1, g2) = rs.getD j G0) := hg
        have hki : (j : Int) < (n : Int) := by omega
        have hkc : (j : Int) ≤ (c : Int) := by omega
        have hkm : j ≤ maxLen := by unfold maxLen; omega
        obtain ⟨kr, hkr⟩ : ∃ b, b = refB (g1, g2) := ⟨_, rfl⟩
        have hrf := l3Ref_any g1 g2 wr
        rw [← hkr] at hrf
        have HKR : Hid (kr = refB (g1, g2)) := hkr
        clear hg hc hcx hkr
        cases kr
        · obtain rfl : r = 3 := by have e1 := refs_bad HN.out hlt HG.out HT.out HKR.out.symm; rw [HREST.out, e1]; rfl
          go_wp2_with (first | (go_at_call 45; refine hrf.mono ?_; rintro e w2 ⟨rfl, hb2⟩))
          go_ret
          exact ⟨rfl, hbel.trans (hb2.mono hbel.size)⟩
        · obtain ⟨mb, hmb⟩ : ∃ b, b = memB (rs.take j) (g1, g2) := ⟨_, rfl⟩
          have HMB : Hid (memB (rs.take j) (g1, g2) = mb) := hmb.symm
          clear hmb
          go_wp2_with (first | (go_at_call 45; refine hrf.mono ?_; rintro e w2 ⟨rfl, hb2⟩; have hbw : Below w.heap.size w w2 := hbel.trans (hb2.mono hbel.size); have z2 := (hbw.cell (p := ⟨P, 2, none⟩) hPl).trans p2; have x0 := (hb2.cell (p := ⟨b, off + j * 2, none⟩) (Nat.lt_of_lt_of_le hb hbel.size)).trans c0; have x1 := (hb2.cell (p := ⟨b, off + j * 2 + 1, none⟩) (Nat.lt_of_lt_of_le hb hbel.size)).trans c1; clear hb2))
          have hPw : P < w2.heap.size := Nat.lt_of_lt_of_le hPl hbw.size
          have hbw2 : b < w2.heap.size := Nat.lt_of_lt_of_le hb hbw.size
          have ham : Calls Tryz.prog 48 #[.slice (some ⟨b, off, none⟩) j c, .agg #[.int .i64 g1, .int .i64 g2]] w2.drew fun e w' => e = .returned (.bool mb) ∧ Below w2.heap.size w2 w' := by
            have := l3Among_any (some ⟨b, off, none⟩) j c (rs.take j) g1 g2 w2.drew hkm (((HR.out.below hbw (Nat.le_refl _)).take hj).below (Below.refl _ _).drew (Nat.le_refl _))
            rw [HMB.out] at this
            exact this.mono fun e w' h => ⟨h.1, (Below.refl _ _).drew.trans h.2⟩
          go_region_held3 (fun w' => w'.cell? ⟨P, 2, none⟩ = some (.slice (some ⟨b, off, none⟩) n c) ∧ w'.cell? ⟨b, off + j * 2, none⟩ = some (.int .i64 g1) ∧ w'.cell? ⟨b, off + j * 2 + 1, none⟩ = some (.int .i64 g2)) (go_keep)
            (first | (go_at_call 48; refine ham.mono ?_; rintro e w3 ⟨rfl, hb3⟩; have q1 := (hb3.cell (p := ⟨P, 2, none⟩) hPw).trans z2; have q2 := (hb3.cell (p := ⟨b, off + j * 2, none⟩) hbw2).trans x0; have q3 := (hb3.cell (p := ⟨b, off + j * 2 + 1, none⟩) hbw2).trans x1))
          cases mb
          · go_wp2
            go_roundw
            case rel => exact ⟨j + 1, by omega, by go_num, hbw.trans (hb3.mono hbw.size), refs_go HN.out hlt HG.out HT.out HKR.out.symm HMB.out⟩
            case measure => simp [intOf]; omega
          · obtain rfl : r = 7 := by have e1 := refs_taken HN.out hlt HG.out HT.out HKR.out.symm HMB.out; rw [HREST.out, e1]; rfl
            go_wp2
            go_ret
            exact ⟨rfl, hbw.trans (hb3.mono hbw.size)⟩
      · have y0 := (hbel.cell (p := ⟨P, 0, none⟩) hPl).trans p0
        have y3 := (hbel.cell (p := ⟨P, 3, none⟩) hPl).trans p3
        have hlo := l3Outs_any P m d oa os _ wr (by omega) hm HK.out (HO.out.below hbel (Nat.le_refl _)) (Nat.lt_of_lt_of_le hPl hbel.size) y0 y3
        have e1 := refs_done HN.out hlt HT.out
        have e2 := HREST.out
        rw [e1, if_neg (by simp)] at e2
        rw [← e2] at hlo
        clear e1 e2
        go_wp2_with (first | (go_at_call 49; refine hlo.mono ?_; rintro e w2 ⟨rfl, hb2⟩))
        go_ret
        exact ⟨rfl, hbel.trans (hb2.mono hbel.size)⟩

end Go.Proofs.YtjgilpkkfpbefaaGreatDoor

namespace Go.Proofs.YtjgilpkkfpbefaaGreatDoor
open Go.RowKit Go.Maps Go.WideMaps

def cmpI (a b : Int) : Int := if a < b then -1 else if b < a then 1 else 0
def cmpR (a b : Int × Int) : Int := if cmpI a.1 b.1 = 0 then cmpI a.2 b.2 else cmpI a.1 b.1
def outR (v : Int) (l : List Int) (x y : Int) : Int := if inB v 1 1000000 = false then 3 else ruleR l x y
def coinR (c : Co) : Int := if refB (c.p, c.q) = false ∨ inB c.h 0 999 = false then 3 else outR c.v c.l c.x c.y
def csR (pr : Int × Int) : List Co → Int
  | [] => 0
  | c :: t => if coinR c ≠ 0 then coinR c else if cmpR (c.p, c.q) pr ≤ 0 then 1 else csR (c.p, c.q) t
def prevR (cs : List Co) : Nat → Int × Int
  | 0 => (0, 0)
  | j + 1 => ((cs.getD j C0).p, (cs.getD j C0).q)
def coinsR (cs : List Co) : Int := if 40 < cs.length then 2 else csR (0, 0) cs

theorem cmpI_zero {a b : Int} : cmpI a b = 0 ↔ a = b := by
  unfold cmpI; by_cases h : a < b
  · simp [h]; omega
  · by_cases h2 : b < a
    · simp [h, h2]; omega
    · simp [h, h2]; omega
theorem cmpI_pos {a b : Int} : 0 < cmpI a b ↔ b < a := by
  unfold cmpI; by_cases h : a < b
  · simp [h]; omega
  · by_cases h2 : b < a <;> simp [h, h2]
theorem cmpR_pos {a b c d : Int} : 0 < cmpR (c, d) (a, b) ↔ a < c ∨ a = c ∧ b < d := by
  unfold cmpR
  by_cases h : c = a
  · subst h
    rw [if_pos (cmpI_zero.2 rfl), cmpI_pos]
    constructor
    · exact fun h => .inr ⟨rfl, h⟩
    · rintro (h | h)
      · omega
      · exact h.2
  · rw [if_neg (fun e => h (cmpI_zero.1 e)), cmpI_pos]
    constructor
    · exact .inl
    · rintro (h' | h')
      · exact h'
      · exact absurd h'.1.symm h
theorem cmpR_neg {a b c d : Int} : cmpR (a, b) (c, d) < 0 ↔ a < c ∨ (a = c ∧ b < d) := by
  unfold cmpR cmpI
  simp only
  split <;> split <;> (try split) <;> omega
theorem coin_first {c : Co} (h : coinR c = 0) : ¬ cmpR (c.p, c.q) (0, 0) ≤ 0 := by
  have h1 : refB (c.p, c.q) = true := by
    cases e : refB (c.p, c.q)
    · unfold coinR at h; rw [if_pos (.inl e)] at h; cases h
    · rfl
  have h2 : 1 ≤ c.p := by
    simp [refB, inB] at h1
    omega
  have := (cmpR_pos (a := 0) (b := 0) (c := c.p) (d := c.q)).2 (.inl (by omega))
  omega
theorem csR_bad {c : Co} {t : List Co} {pr : Int × Int} {r : Int} (h : coinR c = r) (h0 : r ≠ 0) : csR pr (c :: t) = r := by rw [csR, h, if_pos h0]
theorem csR_form {c : Co} {t : List Co} {pr : Int × Int} (h : coinR c = 0) (h1 : cmpR (c.p, c.q) pr ≤ 0) : csR pr (c :: t) = 1 := by rw [csR, h, if_neg (by simp), if_pos h1]
theorem csR_go {c : Co} {t : List Co} {pr : Int × Int} (h : coinR c = 0) (h1 : ¬ cmpR (c.p, c.q) pr ≤ 0) : csR pr (c :: t) = csR (c.p, c.q) t := by rw [csR, h, if_neg (by simp), if_neg h1]
theorem prevR_succ {cs : List Co} {j : Nat} {o : Co} (ho : o = cs.getD j C0) : prevR cs (j + 1) = (o.p, o.q) := by rw [ho]; rfl
theorem next_coin {cs : List Co} {n j : Nat} {o : Co} (hn : cs.length = n) (hlt : j < n) (ho : o = cs.getD j C0) : cs.drop j = o :: cs.drop (j + 1) := by
  rw [ho, List.drop_eq_getElem_cons (by omega)]
  simp [List.getElem?_eq_getElem (show j < cs.length by omega)]

theorem l4Ahead_any (a b c d : Int) (w : World) : Calls Tryz.prog 47 #[.agg #[.int .i64 a, .int .i64 b], .agg #[.int .i64 c, .int .i64 d]] w fun e w' => e = .returned (.bool (decide (0 < cmpR (c, d) (a, b)))) ∧ Below w.heap.size w w' := by
  have hbx : Below w.heap.size w ((w.alloc (.cells #[.int .i64 a, .int .i64 b] 81)).alloc (.cells #[.int .i64 c, .int .i64 d] 81)) := below_box2 _ _
  by_cases h : a = c
  · subst h
    have hv : decide (0 < cmpR (a, d) (a, b)) = decide (b < d) := by
      rw [decide_eq_decide, cmpR_pos]; constructor
      · rintro (h | h)
        · omega
        · exact h.2
      · exact fun h => .inr ⟨rfl, h⟩
    rw [hv]
    go_enter Tryz.func47, Tryz.ntmps47
    go_wp2
    go_ret
    exact ⟨rfl, hbx⟩
  · have e : (a != c) = true := by simp [h]
    have hv : decide (0 < cmpR (c, d) (a, b)) = decide (a < c) := by
      rw [decide_eq_decide, cmpR_pos]; constructor
      · rintro (h' | h')
        · exact h'
        · exact absurd h'.1 h
      · exact .inl
    rw [hv]
    go_enter Tryz.func47, Tryz.ntmps47
    go_wp2
    go_ret
    exact ⟨rfl, hbx⟩

theorem l4Out_any (P q n cap : Nat) (a : Option Addr) (v : Int) (l : List Int) (x y : Int) (w : World) (hl : n ≤ 1048576) (hI : IAt w a n l) (hPl : P < w.heap.size) (pv : w.cell? ⟨P, q, none⟩ = some (.int .i64 v)) (p0 : w.cell? ⟨P, q + 1, none⟩ = some (.slice a n cap)) (p1 : w.cell? ⟨P, q + 2, none⟩ = some (.int .i64 x)) (p2 : w.cell? ⟨P, q + 3, none⟩ = some (.int .i64 y)) :
    Calls Tryz.prog 46 #[.pointer (some ⟨P, q, none⟩)] w fun e w' => e = .returned (.int .i64 (outR v l x y)) ∧ Below w.heap.size w w' := by
  have hlf := l2FaultAt_any P (q + 1) n cap a l x y w hl hI hPl p0 p1 p2
  obtain ⟨kv, hkv⟩ : ∃ k, k = inB v 1 1000000 := ⟨_, rfl⟩
  have hin : ∀ u, Calls Tryz.prog 43 #[.int .i64 v, .int .i64 1, .int .i64 1000000] u fun e w' => e = .returned (.bool kv) ∧ w' = u := fun u => by rw [hkv]; exact l1In_any _ _ _ u
  cases kv
  · have e : outR v l x y = 3 := by unfold outR; rw [if_pos hkv.symm]
    rw [e]
    clear hkv e hI
    go_enter Tryz.func46, Tryz.ntmps46
    go_wp2_with (go_at_call 43; refine (hin _).mono ?_; rintro e w' ⟨rfl, hw⟩; have hw2 := hw.symm; subst hw2)
    go_ret
    exact ⟨rfl, Below.refl _ _⟩
  · have e : outR v l x y = ruleR l x y := by unfold outR; rw [if_neg (by rw [← hkv]; simp)]
    rw [e]
    clear hkv e hI
    go_enter Tryz.func46, Tryz.ntmps46
    go_wp2_with (first | (go_at_call 43; refine (hin _).mono ?_; rintro e w' ⟨rfl, hw⟩; have hw2 := hw.symm; subst hw2) | (go_at_call 73; refine hlf.mono ?_; rintro e w3 ⟨rfl, hb3⟩))
    go_ret
    exact ⟨rfl, hb3⟩

set_option maxRecDepth 20000 in
set_option maxHeartbeats 2000000 in
theorem l4Fault_any (n c : Nat) (a : Option Addr) (cs : List Co) (w : World) (hn : n ≤ 1048576) (hk : ∀ j, j < n → (cs.getD j C0).l.length ≤ 1048576) (hC : CAt w a n cs) :
    Calls Tryz.prog 22 #[.slice a n c] w fun e w' => e = .returned (.int .i64 (coinsR cs)) ∧ Below w.heap.size w w' := by
  have HC : Hid (CAt w a n cs) := hC
  have HN : Hid (cs.length = n) := hC.1
  have HKL : Hid (∀ j, j < n → (cs.getD j C0).l.length ≤ 1048576) := hk
  obtain ⟨r, hr⟩ : ∃ r, r = coinsR cs := ⟨_, rfl⟩
  rw [← hr]
  have HR : Hid (r = coinsR cs) := hr
  clear hC hk hr
  by_cases h40 : 40 < n
  · obtain rfl : r = 2 := by rw [HR.out]; unfold coinsR; rw [if_pos (by rw [HN.out]; exact h40)]
    go_enter Tryz.func22, Tryz.ntmps22
    go_wp2
    go_ret
    exact ⟨rfl, Below.refl _ _⟩
  have HR2 : Hid (r = csR (0, 0) cs) := by show _ = _; rw [HR.out]; unfold coinsR; rw [if_neg (by rw [HN.out]; exact h40)]
  go_enter Tryz.func22, Tryz.ntmps22
  go_wp2
  go_loopw [3] (fun i wr => ∃ j : Nat, j ≤ n ∧ i = .int .i64 j ∧ Below w.heap.size w wr ∧ Hid (r = csR (prevR cs j) (cs.drop j))) (fun i _ => n - (intOf i).toNat)
  case atStart => exact ⟨0, Nat.zero_le _, rfl, Below.refl _ _, HR2.out⟩
  case round =>
    obtain ⟨j, hj, rfl, hbel, HT⟩ := hrel
    by_cases hlt : j < n
    · rcases HC.out.2 with h0 | ⟨b, off, e0, l0, d0⟩
      · omega
      subst e0
      obtain ⟨o, ho⟩ : ∃ o, o = cs.getD j C0 := ⟨_, rfl⟩
      obtain ⟨ka, kc, p0, p4, p5⟩ := d0 j hlt
      have hol := HKL.out j hlt
      rw [← ho] at p0 p4 p5 hol
      have HS : Hid (o = cs.getD j C0) := ho
      obtain ⟨op, oq, ov, ol, ox, oy, oh, om⟩ := o
      obtain ⟨x0, x1, x2, x3, x4, x5, x6, x7⟩ := p0.below hbel l0
      simp only at x0 x1 x2 x3 x4 x5 x6 x7 hol p5
      have HNX : Hid (cs.drop j = (⟨op, oq, ov, ol, ox, oy, oh, om⟩ : Co) :: cs.drop (j + 1)) := next_coin HN.out hlt HS.out
      have hlw : b < wr.heap.size := Nat.lt_of_lt_of_le l0 hbel.size
      obtain ⟨kr, hkr⟩ : ∃ k, k = refB (op, oq) := ⟨_, rfl⟩
      obtain ⟨kh, hkh⟩ : ∃ k, k = inB oh 0 999 := ⟨_, rfl⟩
      have hrf := l3Ref_any op oq wr
      rw [← hkr] at hrf
      have HKR : Hid (kr = refB (op, oq)) := hkr
      have hht : ∀ v, Calls Tryz.prog 24 #[.int .i64 oh] v fun e w' => e = .returned (.bool kh) ∧ w' = v := fun v => by rw [hkh]; exact l2Height_any _ v
      have HKH : Hid (kh = inB oh 0 999) := hkh
      have HI : Hid (IAt w ka ol.length ol) := p5
      obtain ⟨cd, hcd⟩ : ∃ c, c = outR ov ol ox oy := ⟨_, rfl⟩
      have HCD : Hid (cd = outR ov ol ox oy) := hcd
      clear ho p0 p4 p5 hkr hkh hcd
      have hki : (j : Int) < (n : Int) := by omega
      have HX : Hid (CoAt wr b (off + j * 8) ⟨op, oq, ov, ol, ox, oy, oh, om⟩ ka kc) := ⟨x0, x1, x2, x3, x4, x5, x6, x7⟩
      cases kr
      · obtain rfl : r = 3 := by
          have e : coinR ⟨op, oq, ov, ol, ox, oy, oh, om⟩ = 3 := by unfold coinR; rw [if_pos (.inl HKR.out.symm)]
          rw [HT.out, HNX.out, csR_bad e (by simp)]
        clear d0
        go_wp2_with (first | (go_at_call 45; refine hrf.mono ?_; clear hrf; rintro e w2 ⟨rfl, hb2⟩))
        go_ret
        exact ⟨rfl, hbel.trans (hb2.mono hbel.size)⟩
      cases kh
      · obtain rfl : r = 3 := by
          have e : coinR ⟨op, oq, ov, ol, ox, oy, oh, om⟩ = 3 := by unfold coinR; rw [if_pos (.inr HKH.out.symm)]
          rw [HT.out, HNX.out, csR_bad e (by simp)]
        clear d0
        go_wp2_with (first | (go_at_call 45; refine hrf.mono ?_; clear hrf; rintro e w2 ⟨rfl, hb2⟩; clear x0 x1 x2 x3 x4 x5 x6 x7; obtain ⟨x0, x1, x2, x3, x4, x5, x6, x7⟩ := HX.out.below hb2 hlw; simp only at x0 x1 x2 x3 x4 x5 x6 x7) | (go_at_call 24; refine (hht _).mono ?_; rintro e w' ⟨rfl, hw⟩; have hw2 := hw.symm; subst hw2))
        go_ret
        exact ⟨rfl, hbel.trans (hb2.mono hbel.size)⟩
      have HCE : Hid (coinR ⟨op, oq, ov, ol, ox, oy, oh, om⟩ = cd) := by
        show _ = _
        rw [HCD.out]; unfold coinR
        rw [if_neg]
        rintro (h | h)
        · rw [← HKR.out] at h; cases h
        · rw [← HKH.out] at h; cases h
      by_cases hc0 : cd = 0
      · have hcr := coin_first (HCE.out.trans hc0)
        simp only at hcr
        by_cases hj0 : ¬ (0 : Int) < (j : Int)
        · have hj00 : j = 0 := by omega
          have hcr2 : ¬ cmpR (op, oq) (prevR cs j) ≤ 0 := by rw [hj00]; exact hcr
          have HTN : Hid (r = csR (prevR cs (j + 1)) (cs.drop (j + 1))) := by
            show _ = _
            rw [HT.out, HNX.out, csR_go (HCE.out.trans hc0) hcr2, prevR_succ HS.out]
          have hd : decide (0 < j) = false := decide_eq_false (by omega)
          clear hj00 hcr2
          clear d0 hcr
          subst hc0
          go_wp2_with (first | (go_at_call 45; refine hrf.mono ?_; clear hrf; rintro e w2 ⟨rfl, hb2⟩; clear x0 x1 x2 x3 x4 x5 x6 x7; obtain ⟨x0, x1, x2, x3, x4, x5, x6, x7⟩ := HX.out.below hb2 hlw; simp only at x0 x1 x2 x3 x4 x5 x6 x7; have hlf := l4Out_any b (off + j * 8 + 2) ol.length kc ka ov ol ox oy w2 hol (HI.out.below (hbel.trans (hb2.mono hbel.size)) (Nat.le_refl _)) (Nat.lt_of_lt_of_le hlw hb2.size) x2 x3 x4 x5; rw [← HCD.out] at hlf) | (go_at_call 24; refine (hht _).mono ?_; rintro e w' ⟨rfl, hw⟩; have hw2 := hw.symm; subst hw2) | (go_at_call 46; refine hlf.mono ?_; clear hlf; rintro e w3 ⟨rfl, hb3⟩))
          go_quiet (fail)
          go_wp2
          go_roundw
          case rel => exact ⟨j + 1, by omega, by go_num, ((hbel.trans (hb2.mono hbel.size)).trans (hb3.mono (by have := hbel.size; have := hb2.size; omega))).trans (Joins.below_draws _ _ _), HTN⟩
          case measure => simp [intOf]; omega
        · have hj0 : (0 : Int) < (j : Int) := by omega
          have hd : decide (0 < j) = true := decide_eq_true (by omega)
          obtain ⟨i, hi⟩ : ∃ i, j = i + 1 := ⟨j - 1, by omega⟩
          have hsub : IntKind.i64.wrap ((j : Int) - 1) = (i : Int) := by rw [show (j : Int) - 1 = (i : Int) by omega]; exact IntWalk.i64_in _ (by omega)
          have HJI : Hid (j = i + 1) := hi
          obtain ⟨o1, ho1⟩ : ∃ o, o = cs.getD i C0 := ⟨_, rfl⟩
          obtain ⟨ja, jc, q0, _, _⟩ := d0 i (by omega)
          rw [← ho1] at q0
          have HS1 : Hid (o1 = cs.getD i C0) := ho1
          obtain ⟨np, nq, nv, nl, nx, ny, nh, nm⟩ := o1
          have HQ : Hid (CoAt wr b (off + i * 8) ⟨np, nq, nv, nl, nx, ny, nh, nm⟩ ja jc) := q0.below hbel l0
          obtain ⟨kb, hkb⟩ : ∃ k, k = decide (0 < cmpR (op, oq) (np, nq)) := ⟨_, rfl⟩
          have hpr : prevR cs j = (np, nq) := by rw [hi]; exact prevR_succ HS1.out
          have HKB : Hid (kb = decide (0 < cmpR (op, oq) (np, nq))) := hkb
          have HPR : Hid (prevR cs j = (np, nq)) := hpr
          have hkm : (i : Int) < (n : Int) := by omega
          have hk0 : (0 : Int) ≤ (i : Int) := by omega
          clear d0 hcr q0 ho1 hkb hpr hi
          subst hc0
          go_wp2_with (first | (go_at_call 45; refine hrf.mono ?_; clear hrf; rintro e w2 ⟨rfl, hb2⟩; clear x0 x1 x2 x3 x4 x5 x6 x7; obtain ⟨x0, x1, x2, x3, x4, x5, x6, x7⟩ := HX.out.below hb2 hlw; simp only at x0 x1 x2 x3 x4 x5 x6 x7; have hlf := l4Out_any b (off + j * 8 + 2) ol.length kc ka ov ol ox oy w2 hol (HI.out.below (hbel.trans (hb2.mono hbel.size)) (Nat.le_refl _)) (Nat.lt_of_lt_of_le hlw hb2.size) x2 x3 x4 x5; rw [← HCD.out] at hlf) | (go_at_call 24; refine (hht _).mono ?_; rintro e w' ⟨rfl, hw⟩; have hw2 := hw.symm; subst hw2) | (go_at_call 46; refine hlf.mono ?_; clear hlf; rintro e w3 ⟨rfl, hb3⟩))
          have hbw : Below w.heap.size w w3 := (hbel.trans (hb2.mono hbel.size)).trans (hb3.mono (by have := hbel.size; have := hb2.size; omega))
          have hbr : Below wr.heap.size wr w3 := hb2.trans (hb3.mono hb2.size)
          clear x0 x1 x2 x3 x4 x5 x6 x7
          obtain ⟨x0, x1, _⟩ := HX.out.below hbr hlw
          obtain ⟨y0, y1, _⟩ := HQ.out.below hbr hlw
          simp only at x0 x1 y0 y1
          have hl3 : b < w3.heap.size := Nat.lt_of_lt_of_le hlw hbr.size
          have hah : Calls Tryz.prog 47 #[.agg #[.int .i64 np, .int .i64 nq], .agg #[.int .i64 op, .int .i64 oq]] w3.drew fun e w' => e = .returned (.bool kb) ∧ Below w3.heap.size w3 w' := by
            rw [HKB.out]; exact (l4Ahead_any np nq op oq w3.drew).mono fun e w' h => ⟨h.1, (Below.refl _ _).drew.trans h.2⟩
          clear hb2 hb3 hbr
          go_region_held3 (fun w' => w'.cell? ⟨b, off + j * 8, none⟩ = some (.int .i64 op) ∧ w'.cell? ⟨b, off + j * 8 + 1, none⟩ = some (.int .i64 oq) ∧ w'.cell? ⟨b, off + i * 8, none⟩ = some (.int .i64 np) ∧ w'.cell? ⟨b, off + i * 8 + 1, none⟩ = some (.int .i64 nq)) (go_keep)
            (first | (go_at_call 47; refine hah.mono ?_; rintro e w4 ⟨rfl, hb4⟩; have z0 := (hb4.cell (p := ⟨b, off + j * 8, none⟩) hl3).trans x0; have z1 := (hb4.cell (p := ⟨b, off + j * 8 + 1, none⟩) hl3).trans x1; have z2 := (hb4.cell (p := ⟨b, off + i * 8, none⟩) hl3).trans y0; have z3 := (hb4.cell (p := ⟨b, off + i * 8 + 1, none⟩) hl3).trans y1))
          cases kb
          · obtain rfl : r = 1 := by
              have hle : cmpR (op, oq) (np, nq) ≤ 0 := by have := of_decide_eq_false HKB.out.symm; omega
              rw [HT.out, HNX.out, HPR.out, csR_form HCE.out hle]
            go_wp2
            go_ret
            exact ⟨rfl, hbw.trans (hb4.mono hbw.size)⟩
          · have HTN : Hid (r = csR (prevR cs (j + 1)) (cs.drop (j + 1))) := by
              have hle : ¬ cmpR (op, oq) (np, nq) ≤ 0 := by have := of_decide_eq_true HKB.out.symm; omega
              show _ = _
              rw [HT.out, HNX.out, HPR.out, csR_go HCE.out hle, prevR_succ HS.out]
            go_wp2
            go_roundw
            case rel => exact ⟨j + 1, by omega, by go_num, hbw.trans (hb4.mono hbw.size), HTN⟩
            case measure => simp [intOf]; omega
      · obtain rfl : r = cd := by rw [HT.out, HNX.out, csR_bad HCE.out hc0]
        clear d0
        go_wp2_with (first | (go_at_call 45; refine hrf.mono ?_; clear hrf; rintro e w2 ⟨rfl, hb2⟩; clear x0 x1 x2 x3 x4 x5 x6 x7; obtain ⟨x0, x1, x2, x3, x4, x5, x6, x7⟩ := HX.out.below hb2 hlw; simp only at x0 x1 x2 x3 x4 x5 x6 x7; have hlf := l4Out_any b (off + j * 8 + 2) ol.length kc ka ov ol ox oy w2 hol (HI.out.below (hbel.trans (hb2.mono hbel.size)) (Nat.le_refl _)) (Nat.lt_of_lt_of_le hlw hb2.size) x2 x3 x4 x5; rw [← HCD.out] at hlf) | (go_at_call 24; refine (hht _).mono ?_; rintro e w' ⟨rfl, hw⟩; have hw2 := hw.symm; subst hw2) | (go_at_call 46; refine hlf.mono ?_; clear hlf; rintro e w3 ⟨rfl, hb3⟩))
        go_ret
        exact ⟨rfl, (hbel.trans (hb2.mono hbel.size)).trans (hb3.mono (by have := hbel.size; have := hb2.size; omega))⟩
    · obtain rfl : r = 0 := by rw [HT.out, List.drop_eq_nil_of_le (by rw [HN.out]; omega)]; rfl
      go_wp2
      go_ret
      exact ⟨rfl, hbel⟩

end Go.Proofs.YtjgilpkkfpbefaaGreatDoor
