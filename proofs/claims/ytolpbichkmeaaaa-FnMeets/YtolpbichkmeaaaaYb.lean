/- A quorum that is drawn, right or bent, and who is bad. -/
import Derived.Test.YtolpbichkmeaaaaYa
namespace Go.Proofs.Ytolpbichkmeaaaa
open Go.RowKit Go.Maps Go.WideMaps

theorem iatQ2 (V : World) (a b : Int) : IAt (V.alloc (.cells #[.int .i64 a, .int .i64 b] 2)) (some ⟨V.heap.size, 0, none⟩) 2 [a, b] :=
  ⟨rfl, .inr ⟨V.heap.size, 0, rfl, by simp, fun j hj => by
    have h := heap_alloc_new V (.cells #[.int .i64 a, .int .i64 b] 2)
    match j, hj with
    | 0, _ => unfold World.cell?; rw [h]; rfl
    | 1, _ => unfold World.cell?; rw [h]; rfl⟩⟩
theorem iatQ3 (V : World) (a b c : Int) : IAt (V.alloc (.cells #[.int .i64 a, .int .i64 b, .int .i64 c] 2)) (some ⟨V.heap.size, 0, none⟩) 3 [a, b, c] :=
  ⟨rfl, .inr ⟨V.heap.size, 0, rfl, by simp, fun j hj => by
    have h := heap_alloc_new V (.cells #[.int .i64 a, .int .i64 b, .int .i64 c] 2)
    match j, hj with
    | 0, _ => unfold World.cell?; rw [h]; rfl
    | 1, _ => unfold World.cell?; rw [h]; rfl
    | 2, _ => unfold World.cell?; rw [h]; rfl⟩⟩

def OutDq (w v : World) (SB : Nat) (ca : Option Addr) (cn cc T L : Nat) (e : Ending) (v' : World) : Prop :=
  ∃ t a n c ms x, e = .returned (.agg #[.slice a n c, .int .i64 x]) ∧ t ≤ T ∧ n ≤ L ∧ Hid (Dn w v v' SB ca cn cc t a n c ms)

set_option maxRecDepth 20000 in
set_option maxHeartbeats 4000000 in
theorem l10Draw_any (SB cn cc t : Nat) (ca : Option Addr) (l : List Int) (w v : World) (ht : t ≤ 600) (hcn : cn ≤ 1048576) (hB : BAt w ca cn l) (h : Src w v SB ca cn cc t) :
    Calls Try.prog 65 #[.pointer (some ⟨SB, 0, none⟩)] v fun e v' => ∃ t' g n c ms x, e = .returned (.agg #[.slice (some ⟨g, 0, none⟩) n c, .int .i64 x]) ∧ t' ≤ t + 20 ∧ n ≤ 8 ∧ Hid (Dn w v v' SB ca cn cc t' (some ⟨g, 0, none⟩) n c ms) := by
  have HB : Hid (BAt w ca cn l) := hB
  have HSL : Hid (SB < v.heap.size) := h.lt
  have hx := l1Next_any SB cn cc t ca l 8 w (v.alloc (.cells #[.slice none 0 0, .int .i64 0] 28)) (by omega) (by omega) hcn hB (h.step (below_box _))
  have HX0 : Hid ((v.alloc (.cells #[.slice none 0 0, .int .i64 0] 28)).heap[v.heap.size]? = some (.cells #[.slice none 0 0, .int .i64 0] 28 (0, 0))) := heap_alloc_new _ _
  have HC0 : Hid (Chg v (v.alloc (.cells #[.slice none 0 0, .int .i64 0] 28)) SB (SB + 1)) := Chg.of_below (below_box _) _ _
  clear h hB
  go_enter Try.func65, Try.ntmps65
  go_wp2_with (first
    | (go_at_call 24; have hq := hx; clear hx; (with_reducible refine hq.mono ?_); clear hq; rintro e v1 ⟨r, rfl, ⟨hr0, hr1⟩, hS1, hc1⟩; have hr8 : r < 8 := hr1 (by omega); obtain ⟨r', rfl⟩ := Int.eq_ofNat_of_zero_le hr0; obtain ⟨m, hm⟩ : ∃ m : Nat, m = r' + 1 := ⟨_, rfl⟩; have hmw : IntKind.i64.wrap (1 + (r' : Int)) = (m : Int) := (by rw [hm, show (1 : Int) + (r' : Int) = ((r' + 1 : Nat) : Int) by omega]; exact IntWalk.i64_in _ (by omega)); have hm8 : m ≤ 8 := (by omega); have hm1 : 1 ≤ m := (by omega); have HC1 : Hid (Chg v v1 SB (SB + 1)) := HC0.out.trans hc1; have HX1 : Hid (v1.heap[v.heap.size]? = some (.cells #[.slice none 0 0, .int .i64 0] 28 (0, 0))) := hc1.keep HX0.out (.inr HSL.out); have hdk := l10DrawKeys_any SB cn cc (t + 1) m ca l w v1 hm8 (by omega) hcn HB.out hS1; clear hS1 hc1 hm hr1 hr8 hr0)
    | (go_at_call 23; (with_reducible refine hdk.mono ?_); clear hdk; rintro e v2 ⟨g, c, ms, rfl, HD⟩; have HD2 : Hid (Dn w v v2 SB ca cn cc (t + 1 + m) (some ⟨g, 0, none⟩) m c ms) := HD.out.base HC1.out HSL.out; have HX2 : Hid (v2.heap[v.heap.size]? = some (.cells #[.slice none 0 0, .int .i64 0] 28 (0, 0))) := HD.out.chg.keep HX1.out (.inr HSL.out); have HGB : Hid (v.heap.size < g) := Nat.lt_of_lt_of_le (lt_of_block HX1.out) (HD.out.row.lt g rfl).1; have hx2 := l1Next_any SB cn cc (t + 1 + m) ca l m w v2 (by omega) (by omega) hcn HB.out HD2.out.src; have w1 : IntKind.i64.wrap (2 * (m : Int)) = 2 * (m : Int) := IntWalk.i64_in _ (by omega); have w2 : IntKind.i64.wrap (2 * (m : Int) / 3 + 1) = 2 * (m : Int) / 3 + 1 := IntWalk.i64_in _ (by omega); have w3 : IntKind.i64.wrap (2 * (m : Int) / 3) = 2 * (m : Int) / 3 := IntWalk.i64_in _ (by omega))
    | (go_at_call 24; have hq := hx2; clear hx2; (with_reducible refine hq.mono ?_); clear hq; rintro e v3 ⟨r2, rfl, ⟨hr20, hr21⟩, hS3, hc3⟩; have hr22 : r2 < (m : Int) := hr21 (by omega); have hw2 : IntKind.i64.wrap (1 + r2) = 1 + r2 := IntWalk.i64_in _ (by omega); have HD3 : Hid (Dn w v v3 SB ca cn cc (t + 1 + m + 1) (some ⟨g, 0, none⟩) m c ms) := HD2.out.draw hS3 hc3; have HX3 : Hid (v3.heap[v.heap.size]? = some (.cells #[.slice none 0 0, .int .i64 0] 28 (0, 0))) := hc3.keep HX2.out (.inr HSL.out); have hpk := l1Pick_any SB cn cc (t + 1 + m + 1) 2 2 ca (some ⟨v3.heap.size, 0, none⟩) l [2 * (m : Int) / 3 + 1, 1 + r2] w (v3.alloc (.cells #[.int .i64 (2 * (m : Int) / 3 + 1), .int .i64 (1 + r2)] 2)) (by omega) (by omega) (by omega) hcn HB.out (HD3.out.step (below_box _)).src (iatQ2 _ _ _) (fun b o e => (by cases e; have := HSL.out; have := HD3.out.chg.size; omega)); clear hS3 hc3 hr21)
    | (go_at_call 25; (with_reducible refine hpk.mono ?_); clear hpk; rintro e v4 ⟨z, rfl, _, hS4, hc4⟩; have HD4 : Hid (Dn w v v4 SB ca cn cc (t + 1 + m + 1 + 1) (some ⟨g, 0, none⟩) m c ms) := (HD3.out.step (below_box _)).draw hS4 hc4; have HX4 : Hid (v4.heap[v.heap.size]? = some (.cells #[.slice none 0 0, .int .i64 0] 28 (0, 0))) := hc4.keep (keepb HX3.out (below_box _)).out (.inr HSL.out); obtain ⟨x0, x1⟩ := cells2 HX4.out; have f0 := Joins.unfrozen_of_block HX4.out 0; have f1 := Joins.unfrozen_of_block HX4.out 1; clear hS4 hc4))
  obtain ⟨_, s1, s2⟩ := two_set HX4.out (.slice (some ⟨g, 0, none⟩) m c) (.int .i64 z)
  have hfin := (HD4.out.set (b := v.heap.size) (i := 0) (fun k e => by have := HGB.out; simp [Value.ownBlock] at e; omega) (Nat.le_refl _) (.slice (some ⟨g, 0, none⟩) m c)).set (b := v.heap.size) (i := 1) (fun k e => by have := HGB.out; simp [Value.ownBlock] at e; omega) (Nat.le_refl _) (.int .i64 z)
  exact bodyPost_ret (v := .agg #[.slice (some ⟨g, 0, none⟩) m c, .int .i64 z]) (by simp [results, Try.results65, go_sem, s1, s2]) rfl ⟨_, g, m, c, ms, z, rfl, by omega, hm8, hfin⟩

/-- A row of numbers is no quorum's block. -/
theorem row_not {V : World} {base n c Q : Nat} {a : Option Addr} {xs : List Value} {cs : Array Value} (h : V.ownsRow base 2 1 (.slice a n c) n xs) (hq : V.heap[Q]? = some (.cells cs 28 (0, 0))) : ∀ k, Value.ownBlock (.slice a n c) = some k → k ≠ Q := fun k e hk => by
  subst hk
  rcases id h.2 with ⟨e1, _⟩ | ⟨g', c', cur, e1, _, hh, _⟩
  · rw [e1] at e; cases e
  · rw [e1] at e
    cases e
    rw [hq] at hh
    cases hh

/-- A quorum under way: its keys, its block and the result's. -/
structure Bq (w v V : World) (SB : Nat) (ca : Option Addr) (cn cc t Q : Nat) (a : Option Addr) (n c : Nat) (ms : List Int) (x : Int) : Prop where
  d : Dn w v V SB ca cn cc t a n c ms
  q : V.heap[Q]? = some (.cells #[.slice a n c, .int .i64 x] 28 (0, 0))
  r : V.heap[v.heap.size]? = some (.cells #[.slice none 0 0, .int .i64 0] 28 (0, 0))
  qr : v.heap.size < Q
section
variable {w v V V' : World} {SB Q : Nat} {ca a : Option Addr} {cn cc t t' n c : Nat} {ms : List Int} {x : Int}
theorem Bq.step (h : Bq w v V SB ca cn cc t Q a n c ms x) (hb : Below V.heap.size V V') : Bq w v V' SB ca cn cc t Q a n c ms x :=
  ⟨h.d.step hb, (keepb h.q hb).out, (keepb h.r hb).out, h.qr⟩
theorem Bq.draw (h : Bq w v V SB ca cn cc t Q a n c ms x) (hS : Src w V' SB ca cn cc t') (hc : Chg V V' SB (SB + 1)) : Bq w v V' SB ca cn cc t' Q a n c ms x :=
  ⟨h.d.draw hS hc, hc.keep h.q (.inr (by have := h.d.sl; have := h.qr; omega)), hc.keep h.r (.inr h.d.sl), h.qr⟩
theorem Bq.facts (h : Bq w v V SB ca cn cc t Q a n c ms x) : (V.cell? ⟨Q, 0, none⟩ = some (.slice a n c) ∧ V.cell? ⟨Q, 1, none⟩ = some (.int .i64 x)) ∧ (V.frozen? ⟨Q, 0, none⟩ = false ∧ V.frozen? ⟨Q, 1, none⟩ = false) ∧ (V.cell? ⟨v.heap.size, 0, none⟩ = some (.slice none 0 0) ∧ V.cell? ⟨v.heap.size, 1, none⟩ = some (.int .i64 0)) ∧ (V.frozen? ⟨v.heap.size, 0, none⟩ = false ∧ V.frozen? ⟨v.heap.size, 1, none⟩ = false) :=
  ⟨cells2 h.q, ⟨Joins.unfrozen_of_block h.q 0, Joins.unfrozen_of_block h.q 1⟩, cells2 h.r, ⟨Joins.unfrozen_of_block h.r 0, Joins.unfrozen_of_block h.r 1⟩⟩
theorem Bq.need (h : Bq w v V SB ca cn cc t Q a n c ms x) (y : Int) : Bq w v (V.setCell ⟨Q, 1, none⟩ (.int .i64 y)) SB ca cn cc t Q a n c ms y := by
  have hq := h.qr
  refine ⟨h.d.set (row_not h.d.row h.q) (by omega) _, ?_, (Below.heap_setCell _ ⟨Q, 1, none⟩ _ _ (show v.heap.size ≠ Q by omega)).trans h.r, hq⟩
  have := Joins.block_setCell (i := 1) h.q (.int .i64 y)
  simpa using this
theorem Bq.empt (h : Bq w v V SB ca cn cc t Q a n c ms x) : Bq w v (V.setCell ⟨Q, 0, none⟩ (.slice none 0 0)) SB ca cn cc t Q none 0 0 [] x := by
  have hq := h.qr
  have hd := h.d.set (i := 0) (row_not h.d.row h.q) (by omega) (.slice none 0 0)
  refine ⟨⟨hd.src, hd.chg, World.ownsRow_nil _ _ _ _, rfl, hd.sl⟩, ?_, (Below.heap_setCell _ ⟨Q, 0, none⟩ _ _ (show v.heap.size ≠ Q by omega)).trans h.r, hq⟩
  have := Joins.block_setCell (i := 0) h.q (.slice none 0 0)
  simpa using this
theorem Bq.more {g : Nat} (h : Bq w v V SB ca cn cc t Q (some ⟨g, 0, none⟩) n c ms x) {y : Int} (hl : n ≤ 900) :
    ∃ g3 c3 w5, (∀ ty, ty = 24 → (Builtin.append_ #[24, 24] ty #[.slice (some ⟨g, 0, none⟩) n c, .slice (some ⟨V.heap.size, 0, none⟩) 1 1]).run Try.prog (V.alloc (.cells #[.int .i64 y] 2)) = .ok (.slice (some ⟨g3, 0, none⟩) (n + 1) c3) w5) ∧
      (w5.cell? ⟨Q, 0, none⟩ = some (.slice (some ⟨g, 0, none⟩) n c) ∧ w5.frozen? ⟨Q, 0, none⟩ = false) ∧
      Hid (Bq w v (w5.setCell ⟨Q, 0, none⟩ (.slice (some ⟨g3, 0, none⟩) (n + 1) c3)) SB ca cn cc t Q (some ⟨g3, 0, none⟩) (n + 1) c3 (ms ++ [y]) x) := by
  obtain ⟨g3, c3, w5, hrun, HD⟩ := h.d.more (x := y) hl
  obtain ⟨hD, hc⟩ := HD.out
  have hgq : g ≠ Q := row_not h.d.row h.q g rfl
  have hgr : g ≠ v.heap.size := row_not h.d.row h.r g rfl
  have hq5 := hc.keep h.q (by omega)
  have hr5 := hc.keep h.r (by omega)
  have hq := h.qr
  refine ⟨g3, c3, w5, fun ty e => by subst e; exact hrun, ⟨(cells2 hq5).1, Joins.unfrozen_of_block hq5 0⟩, hD.set (row_not hD.row hq5) (by omega) _, ?_, (Below.heap_setCell _ ⟨Q, 0, none⟩ _ _ (show v.heap.size ≠ Q by omega)).trans hr5, hq⟩
  have := Joins.block_setCell (i := 0) hq5 (.slice (some ⟨g3, 0, none⟩) (n + 1) c3)
  simpa using this
/-- What is left where the block's quorum is handed on. -/
theorem Bq.done {T L : Nat} (h : Bq w v V SB ca cn cc t Q a n c ms x) (hT : t ≤ T) (hL : n ≤ L) : ((V.setCell ⟨v.heap.size, 0, none⟩ (.slice a n c)).setCell ⟨v.heap.size, 1, none⟩ (.int .i64 x)).cell? ⟨v.heap.size, 0, none⟩ = some (.slice a n c) ∧ ((V.setCell ⟨v.heap.size, 0, none⟩ (.slice a n c)).setCell ⟨v.heap.size, 1, none⟩ (.int .i64 x)).cell? ⟨v.heap.size, 1, none⟩ = some (.int .i64 x) ∧
    OutDq w v SB ca cn cc T L (.returned (.agg #[.slice a n c, .int .i64 x])) ((V.setCell ⟨v.heap.size, 0, none⟩ (.slice a n c)).setCell ⟨v.heap.size, 1, none⟩ (.int .i64 x)) := by
  obtain ⟨_, s1, s2⟩ := two_set h.r (.slice a n c) (.int .i64 x)
  have hw := row_not h.d.row h.r
  exact ⟨s2, s1, t, a, n, c, ms, x, rfl, hT, hL, (h.d.set hw (Nat.le_refl _) _).set hw (Nat.le_refl _) _⟩
end

set_option maxRecDepth 20000 in
set_option maxHeartbeats 8000000 in
theorem l10Bent_any (SB cn cc t : Nat) (ca : Option Addr) (l : List Int) (w v : World) (ht : t ≤ 500) (hcn : cn ≤ 1048576) (hB : BAt w ca cn l) (h : Src w v SB ca cn cc t) :
    Calls Try.prog 60 #[.pointer (some ⟨SB, 0, none⟩)] v fun e v' => OutDq w v SB ca cn cc (t + 40) 9 e v' := by
  have HB : Hid (BAt w ca cn l) := hB
  have HSL : Hid (SB < v.heap.size) := h.lt
  have hdr := l10Draw_any SB cn cc t ca l w (v.alloc (.cells #[.slice none 0 0, .int .i64 0] 28)) (by omega) hcn hB (h.step (below_box _))
  have HX0 : Hid ((v.alloc (.cells #[.slice none 0 0, .int .i64 0] 28)).heap[v.heap.size]? = some (.cells #[.slice none 0 0, .int .i64 0] 28 (0, 0))) := heap_alloc_new _ _
  clear h hB
  go_enter Try.func60, Try.ntmps60
  go_wp2_with (go_at_call 65; (with_reducible refine hdr.mono ?_); clear hdr; rintro e v2 ⟨t1, g, n, c, ms, x, rfl, ht1, hn8, HD⟩; have hD2 : Dn w v v2 SB ca cn cc t1 (some ⟨g, 0, none⟩) n c ms := HD.out.base (Chg.of_below (below_box _) _ _) HSL.out; have hX2 := HD.out.chg.keep HX0.out (.inr HSL.out); have HQ3 : Hid (Bq w v (v2.alloc (.cells #[.slice (some ⟨g, 0, none⟩) n c, .int .i64 x] 28)) SB ca cn cc t1 v2.heap.size (some ⟨g, 0, none⟩) n c ms x) := ⟨hD2.step (below_box _), heap_alloc_new _ _, (keepb hX2 (below_box _)).out, lt_of_block hX2⟩; clear hD2 hX2)
  have hx := l1Next_any SB cn cc t1 ca l 10 w (v2.alloc (.cells #[.slice (some ⟨g, 0, none⟩) n c, .int .i64 x] 28)) (by omega) (by omega) hcn HB.out HQ3.out.d.src
  refine hx.mono ?_
  clear hx
  rintro e v4 ⟨r, rfl, _, hS4, hc4⟩
  have HQ4 : Hid (Bq w v v4 SB ca cn cc (t1 + 1) v2.heap.size (some ⟨g, 0, none⟩) n c ms x) := HQ3.out.draw hS4 hc4
  obtain ⟨Qb, hQb⟩ : ∃ q, q = v2.heap.size := ⟨_, rfl⟩
  rw [← hQb] at HQ4 ⊢
  clear hS4 hc4 HQ3 hQb
  by_cases h0 : r = 0
  · subst h0
    have hp := l1Pick_any SB cn cc (t1 + 1) 3 3 ca (some ⟨v4.heap.size, 0, none⟩) l [0, 9, 1] w (v4.alloc (.cells #[.int .i64 0, .int .i64 9, .int .i64 1] 2)) (by omega) (by omega) (by omega) hcn HB.out (HQ4.out.step (below_box _)).d.src (iatQ3 _ _ _ _) (fun b o e => by cases e; have := HSL.out; have := HQ4.out.d.chg.size; omega)
    go_wp2_with (go_at_call 25; (with_reducible refine hp.mono ?_); clear hp; rintro e v5 ⟨z, rfl, _, hS5, hc5⟩; have HQ5 : Hid (Bq w v v5 SB ca cn cc (t1 + 1 + 1) Qb (some ⟨g, 0, none⟩) n c ms x) := (HQ4.out.step (below_box _)).draw hS5 hc5; have HQ6 : Hid (Bq w v (v5.setCell ⟨Qb, 1, none⟩ (.int .i64 z)) SB ca cn cc (t1 + 1 + 1) Qb (some ⟨g, 0, none⟩) n c ms z) := HQ5.out.need z; obtain ⟨⟨a0, a1⟩, ⟨a2, a3⟩, _, _⟩ := HQ5.out.facts; obtain ⟨⟨b0, b1⟩, ⟨b2, b3⟩, ⟨b4, b5⟩, ⟨b6, b7⟩⟩ := HQ6.out.facts; clear hS5 hc5)
    obtain ⟨s0, s1, hout⟩ := HQ6.out.done (T := t + 40) (L := 9) (by omega) (by omega)
    exact bodyPost_ret (v := .agg #[.slice (some ⟨g, 0, none⟩) n c, .int .i64 z]) (by simp [results, Try.results60, go_sem, s0, s1]) rfl hout
  have h0b : (r == 0) = false := by simpa using h0
  by_cases h1 : r = 1
  · subst h1
    have hb3 : Below v4.heap.size v4 (v4.alloc (.cells #[.int .i64 1, .int .i64 1000, .int .i64 999] 2)).drew := (below_box _).drew
    have hp := l1Pick_any SB cn cc (t1 + 1) 3 3 ca (some ⟨v4.heap.size, 0, none⟩) l [1, 1000, 999] w (v4.alloc (.cells #[.int .i64 1, .int .i64 1000, .int .i64 999] 2)).drew (by omega) (by omega) (by omega) hcn HB.out (HQ4.out.step hb3).d.src (iatQ3 v4 1 1000 999) (fun b o e => by cases e; have := HSL.out; have := HQ4.out.d.chg.size; omega)
    obtain ⟨⟨a0, a1⟩, _, _, _⟩ := HQ4.out.facts
    obtain ⟨⟨c0, c1⟩, _, _, _⟩ := (HQ4.out.step hb3).facts
    have HB3 : Hid (Below v4.heap.size v4 (v4.alloc (.cells #[.int .i64 1, .int .i64 1000, .int .i64 999] 2)).drew) := hb3
    clear hb3
    go_wp2
    go_region_law (first
      | (refine step_append_runQ (by rfl) (.tmp 17) (.tmp 21) 24 (by rfl) (v := .slice (some ⟨g, 0, none⟩) n c) (u := .slice (some ⟨v5.heap.size, 0, none⟩) 1 1) (v' := .slice (some ⟨g3, 0, none⟩) (n + 1) c3) (w' := v6) (by rfl) (by rfl) ?_ ?_; (with_reducible exact hrun))
      | (go_simp; go_at_call 25; (with_reducible refine hp.mono ?_); clear hp; rintro e v5 ⟨z, rfl, _, hS5, hc5⟩; have HQ5 : Hid (Bq w v v5 SB ca cn cc (t1 + 1 + 1) Qb (some ⟨g, 0, none⟩) n c ms x) := (HQ4.out.step HB3.out).draw hS5 hc5; obtain ⟨⟨d0, d1⟩, _, _, _⟩ := HQ5.out.facts; obtain ⟨⟨e0, e1⟩, _, _, _⟩ := (HQ5.out.step (below_box (.cells #[.int .i64 z] 2))).facts; obtain ⟨g3, c3, v6, hrun0, ⟨y0, y1⟩, HQ7⟩ := HQ5.out.more (y := z) (by omega); have hrun := hrun0 _ rfl; obtain ⟨⟨b0, b1⟩, ⟨b2, b3⟩, ⟨b4, b5⟩, ⟨b6, b7⟩⟩ := HQ7.out.facts; clear hS5 hc5 hrun0))
    all_goals
      go_wp2
      obtain ⟨s0, s1, hout⟩ := HQ7.out.done (T := t + 40) (L := 9) (by omega) (by omega)
      exact bodyPost_ret (v := .agg #[.slice (some ⟨g3, 0, none⟩) (n + 1) c3, .int .i64 x]) (by simp [results, Try.results60, go_sem, s0, s1]) rfl hout
  have h1b : (r == 1) = false := by simpa using h1
  by_cases h2 : r = 2
  · subst h2
    have HQ6 : Hid (Bq w v (v4.setCell ⟨Qb, 0, none⟩ (.slice none 0 0)) SB ca cn cc (t1 + 1) Qb none 0 0 [] x) := HQ4.out.empt
    obtain ⟨⟨a0, a1⟩, ⟨a2, a3⟩, _, _⟩ := HQ4.out.facts
    obtain ⟨⟨b0, b1⟩, ⟨b2, b3⟩, ⟨b4, b5⟩, ⟨b6, b7⟩⟩ := HQ6.out.facts
    go_wp2_with fail
    obtain ⟨s0, s1, hout⟩ := HQ6.out.done (T := t + 40) (L := 9) (by omega) (by omega)
    exact bodyPost_ret (v := .agg #[.slice none 0 0, .int .i64 x]) (by simp [results, Try.results60, go_sem, s0, s1]) rfl hout
  have h2b : (r == 2) = false := by simpa using h2
  obtain ⟨⟨b0, b1⟩, ⟨b2, b3⟩, ⟨b4, b5⟩, ⟨b6, b7⟩⟩ := HQ4.out.facts
  go_wp2_with fail
  obtain ⟨s0, s1, hout⟩ := HQ4.out.done (T := t + 40) (L := 9) (by omega) (by omega)
  exact bodyPost_ret (v := .agg #[.slice (some ⟨g, 0, none⟩) n c, .int .i64 x]) (by simp [results, Try.results60, go_sem, s0, s1]) rfl hout

end Go.Proofs.Ytolpbichkmeaaaa
