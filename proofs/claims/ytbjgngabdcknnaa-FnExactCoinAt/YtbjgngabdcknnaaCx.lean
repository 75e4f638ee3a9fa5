/- The program's CoinAt keeps its contract. -/
import Derived.Test.YtbjgngabdcknnaaCw
namespace Go.Proofs.Ytbjgngabdcknnaa
open Go.RowKit Go.Maps Go.WideMaps

theorem COwn.set2 {w : World} {lo hi b n : Nat} {v : Value} {f : Nat → Co} {kv : Nat → Value} (h : COwn w lo hi v n f kv) (hv : v.ownBlock ≠ some b) (hk : ∀ j, j < n → (kv j).ownBlock ≠ some b) (i : Nat) (u : Value) : COwn (w.setCell ⟨b, i, none⟩ u) lo hi v n f kv := by
  obtain ⟨xs, h1, h2⟩ := h.row
  exact ⟨⟨xs, ownsRow_setCell_other h1 (a := ⟨b, i, none⟩) hv u, h2⟩, h.top, fun j hj => ⟨ownsRow_setCell_other (h.keys j hj).1 (a := ⟨b, i, none⟩) (hk j hj) u, (h.keys j hj).2⟩, h.apart⟩

theorem COwn.lower {w : World} {lo lo' hi hi' n : Nat} {v : Value} {f : Nat → Co} {kv : Nat → Value} (h : COwn w lo hi v n f kv) (hl : lo' ≤ lo) (hh : hi ≤ hi') : COwn w lo' hi' v n f kv := by
  obtain ⟨xs, h1, h2⟩ := h.row
  exact ⟨⟨xs, Joins.ownsRow_le h1 hl, h2⟩, fun b hb => Nat.lt_of_lt_of_le (h.top b hb) hh, fun j hj => ⟨Joins.ownsRow_le (h.keys j hj).1 hl, fun b hb => Nat.lt_of_lt_of_le ((h.keys j hj).2 b hb) hh⟩, h.apart⟩
theorem look_none {w : World} {lo B : Nat} {cs : List Co} {p q : Int} (h : ∃ ps, Pu w lo B ps ∧ ps.map (·.1) = cs) (hl : ∀ ps : List (Co × Value), ps.map (·.1) = cs → cs.find? (fun c => decide ((c.p, c.q) = (p, q))) = (findP ps (p, q)).map (·.1)) (hf : cs.find? (fun c => decide ((c.p, c.q) = (p, q))) = none) (hp : (Lit.int .i64 p).wf = true) (hq : (Lit.int .i64 q).wf = true) :
    (Instr.lookup 83 (.map (some B)) (.agg #[.int .i64 p, .int .i64 q]) true).run Try.prog w = .ok (.tuple #[.agg #[.int .i64 0, .int .i64 0, .int .i64 0, .slice none 0 0, .int .i64 0, .int .i64 0, .int .i64 0, .bool false], .bool false]) w := by
  obtain ⟨ps, hPu, hps⟩ := h
  have h1 := hPu.look (r := (p, q)) hp hq
  have h2 := hl ps hps
  rw [hf] at h2
  cases h3 : findP ps (p, q) with
  | none => rw [h3] at h1; exact h1
  | some x => rw [h3] at h2; cases h2
theorem look_some {w : World} {lo B : Nat} {cs : List Co} {p q : Int} {x : Co} (h : ∃ ps, Pu w lo B ps ∧ ps.map (·.1) = cs) (hl : ∀ ps : List (Co × Value), ps.map (·.1) = cs → cs.find? (fun c => decide ((c.p, c.q) = (p, q))) = (findP ps (p, q)).map (·.1)) (hf : cs.find? (fun c => decide ((c.p, c.q) = (p, q))) = some x) (hp : (Lit.int .i64 p).wf = true) (hq : (Lit.int .i64 q).wf = true) :
    ∃ ua uc, (Instr.lookup 83 (.map (some B)) (.agg #[.int .i64 p, .int .i64 q]) true).run Try.prog w = .ok (.tuple #[.agg #[.int .i64 x.p, .int .i64 x.q, .int .i64 x.v, .slice ua x.l.length uc, .int .i64 x.x, .int .i64 x.y, .int .i64 x.h, .bool x.m], .bool true]) w ∧ Hid (w.ownsRow lo 2 1 (.slice ua x.l.length uc) x.l.length (ints x.l)) := by
  obtain ⟨ps, hPu, hps⟩ := h
  have h1 := hPu.look (r := (p, q)) hp hq
  have h2 := hl ps hps
  rw [hf] at h2
  cases h3 : findP ps (p, q) with
  | none => rw [h3] at h2; cases h2
  | some y =>
    rw [h3] at h1 h2
    obtain ⟨y1, u⟩ := y
    obtain rfl : x = y1 := by simpa using h2
    have hrow := hPu.rows (x, u) (by unfold findP at h3; exact List.mem_of_find?_eq_some h3)
    obtain ⟨ua, uc, hu⟩ : ∃ ua uc, u = .slice ua x.l.length uc := by
      rcases hrow.2 with ⟨e1, e2⟩ | ⟨g, cp, cur, e1, _⟩
      · exact ⟨none, 0, by rw [show u = .slice none 0 0 from e1, show x.l.length = 0 from e2]⟩
      · exact ⟨some ⟨g, 0, none⟩, cp, e1⟩
    subst hu
    exact ⟨ua, uc, h1, hrow⟩

set_option maxRecDepth 20000 in
set_option maxHeartbeats 2000000 in
theorem iCoinAt_any (n c : Nat) (a : Option Addr) (cs : List Co) (p q : Int) (w : World) (hn : n ≤ 1048576) (hk : ∀ j, j < n → (cs.getD j C0).l.length ≤ 1048576) (hp : (Lit.int .i64 p).wf = true) (hq : (Lit.int .i64 q).wf = true) (hC : CAt w a n cs) :
    Calls Try.prog 11 #[.slice a n c, .agg #[.int .i64 p, .int .i64 q]] w fun e w' => OutCs w w' e (atR cs (p, q)).1 (atR cs (p, q)).2 := by
  obtain ⟨t0, t1, t2⟩ := blocks2 w (.cells #[.int .i64 p, .int .i64 q] 31) (.cells #[.int .i64 0, .slice none 0 0] 28)
  have hbx : Below w.heap.size w ((w.alloc (.cells #[.int .i64 p, .int .i64 q] 31)).alloc (.cells #[.int .i64 0, .slice none 0 0] 28)) := below_box2 _ _
  have hF := fillPurse_any n c a cs ((w.alloc (.cells #[.int .i64 p, .int .i64 q] 31)).alloc (.cells #[.int .i64 0, .slice none 0 0] 28)) hn hk (hC.below hbx (Nat.le_refl _))
  have HBX : Hid (Below w.heap.size w ((w.alloc (.cells #[.int .i64 p, .int .i64 q] 31)).alloc (.cells #[.int .i64 0, .slice none 0 0] 28))) := hbx
  have T0 : Hid (((w.alloc (.cells #[.int .i64 p, .int .i64 q] 31)).alloc (.cells #[.int .i64 0, .slice none 0 0] 28)).heap[w.heap.size]? = some (.cells #[.int .i64 p, .int .i64 q] 31 (0, 0))) := t0
  have T1 : Hid (((w.alloc (.cells #[.int .i64 p, .int .i64 q] 31)).alloc (.cells #[.int .i64 0, .slice none 0 0] 28)).heap[w.heap.size + 1]? = some (.cells #[.int .i64 0, .slice none 0 0] 28 (0, 0))) := t1
  have HSZ : Hid (((w.alloc (.cells #[.int .i64 p, .int .i64 q] 31)).alloc (.cells #[.int .i64 0, .slice none 0 0] 28)).heap.size = w.heap.size + 1 + 1) := t2
  have HWF : Hid ((Lit.int .i64 p).wf = true ∧ (Lit.int .i64 q).wf = true) := ⟨hp, hq⟩
  clear hbx t0 t1 t2 hC hk hp hq
  by_cases h0 : coinsR cs = 0
  · have hF' : Calls Try.prog 39 #[.slice a n c] ((w.alloc (.cells #[.int .i64 p, .int .i64 q] 31)).alloc (.cells #[.int .i64 0, .slice none 0 0] 28)) fun e w' => Below ((w.alloc (.cells #[.int .i64 p, .int .i64 q] 31)).alloc (.cells #[.int .i64 0, .slice none 0 0] 28)).heap.size ((w.alloc (.cells #[.int .i64 p, .int .i64 q] 31)).alloc (.cells #[.int .i64 0, .slice none 0 0] 28)) w' ∧ ∃ B, e = .returned (.tuple #[.map (some B), .int .i64 0]) ∧ Hid (∃ ps, Pu w' (w.heap.size + 1 + 1) B ps ∧ ps.map (·.1) = cs) := hF.mono fun e w' h => by
      rcases h.2 with h1 | ⟨_, B, ps, h1, h2, h3⟩
      · exact absurd h0 h1.1
      · rw [HSZ.out] at h2
        exact ⟨h.1, B, h1, ps, h2, h3⟩
    clear hF
    have HL : Hid (∀ ps : List (Co × Value), ps.map (·.1) = cs → cs.find? (fun c => decide ((c.p, c.q) = (p, q))) = (findP ps (p, q)).map (·.1)) := fun ps h => by rw [← h]; exact find_map
    cases hfd : cs.find? (fun c => decide ((c.p, c.q) = (p, q))) with
    | none =>
      have hr : atR cs (p, q) = (4, []) := by unfold atR; rw [if_neg (by simp [h0]), hfd]
      rw [hr]
      have HFD : Hid (cs.find? (fun c => decide ((c.p, c.q) = (p, q))) = none) := hfd
      clear hr hfd h0
      go_enter Try.func11, Try.ntmps11
      go_wp2_with (first
        | (go_at_call 39; (with_reducible refine hF'.mono ?_); clear hF'; rintro e w2 ⟨hb2, B, rfl, HPU⟩; have HT0 := keepb T0.out hb2; have HT1 := keepb T1.out hb2; have HB2 : Hid (Below w.heap.size w w2) := HBX.out.trans (hb2.mono HBX.out.size); obtain ⟨s0, s1⟩ := cells2 HT0.out; obtain ⟨y0, y1⟩ := cells2 HT1.out; have f0 := Joins.unfrozen_of_block HT1.out 0; have f1 := Joins.unfrozen_of_block HT1.out 1; have hsz2 := hb2.size; rw [HSZ.out] at hsz2; clear hb2; have hrun : (Instr.lookup 83 (.map (some B)) (.agg #[.int .i64 p, .int .i64 q]) true).run Try.prog w2 = .ok (.tuple #[.agg #[.int .i64 0, .int .i64 0, .int .i64 0, .slice none 0 0, .int .i64 0, .int .i64 0, .int .i64 0, .bool false], .bool false]) w2 := (look_none HPU.out HL.out HFD.out HWF.out.1 HWF.out.2); have HU : Hid ((w2.alloc (.cells #[.int .i64 0, .int .i64 0, .int .i64 0, .slice none 0 0, .int .i64 0, .int .i64 0, .int .i64 0, .bool false] 80)).heap[w.heap.size + 1]? = some (.cells #[.int .i64 0, .slice none 0 0] 28 (0, 0))) := keepb HT1.out (below_box _); clear y0 y1 f0 f1; obtain ⟨y0, y1⟩ := cells2 HU.out; have f0 := Joins.unfrozen_of_block HU.out 0; have f1 := Joins.unfrozen_of_block HU.out 1))
      have HB3 : Below w.heap.size w (w2.alloc (.cells #[.int .i64 0, .int .i64 0, .int .i64 0, .slice none 0 0, .int .i64 0, .int .i64 0, .int .i64 0, .bool false] 80)) := HB2.out.trans ((below_box _).mono HB2.out.size)
      obtain ⟨_, j1⟩ := two_set HU.out (.int .i64 4) (.slice none 0 0)
      refine bodyPost_ret (v := .agg #[.int .i64 4, .slice none 0 0]) (by simp [results, Try.results11, go_sem, j1]) rfl ⟨_, _, rfl, COwn.zero _, (HB3.setCell (p := ⟨w.heap.size + 1, 0, none⟩) (show w.heap.size ≤ w.heap.size + 1 by omega) _).setCell (p := ⟨w.heap.size + 1, 1, none⟩) (show w.heap.size ≤ w.heap.size + 1 by omega) _⟩
    | some x =>
      have hr : atR cs (p, q) = (0, [x]) := by unfold atR; rw [if_neg (by simp [h0]), hfd]
      rw [hr]
      have HFD : Hid (cs.find? (fun c => decide ((c.p, c.q) = (p, q))) = some x) := hfd
      clear hr hfd h0
      go_enter Try.func11, Try.ntmps11
      go_wp2_with (first
        | (go_at_call 39; (with_reducible refine hF'.mono ?_); clear hF'; rintro e w2 ⟨hb2, B, rfl, HPU⟩; have HT0 := keepb T0.out hb2; have HT1 := keepb T1.out hb2; have HB2 : Hid (Below w.heap.size w w2) := HBX.out.trans (hb2.mono HBX.out.size); obtain ⟨s0, s1⟩ := cells2 HT0.out; obtain ⟨y0, y1⟩ := cells2 HT1.out; have f0 := Joins.unfrozen_of_block HT1.out 0; have f1 := Joins.unfrozen_of_block HT1.out 1; have hsz2 := hb2.size; rw [HSZ.out] at hsz2; clear hb2; obtain ⟨ua, uc, hrun, HROW⟩ := look_some HPU.out HL.out HFD.out HWF.out.1 HWF.out.2; have HU : Hid (((w2.alloc (.cells #[.int .i64 x.p, .int .i64 x.q, .int .i64 x.v, .slice ua x.l.length uc, .int .i64 x.x, .int .i64 x.y, .int .i64 x.h, .bool x.m] 80)).alloc (.cells #[.int .i64 x.p, .int .i64 x.q, .int .i64 x.v, .slice ua x.l.length uc, .int .i64 x.x, .int .i64 x.y, .int .i64 x.h, .bool x.m] 80)).heap[w.heap.size + 1]? = some (.cells #[.int .i64 0, .slice none 0 0] 28 (0, 0))) := keepb HT1.out (below_box2 _ _); clear y0 y1 f0 f1; obtain ⟨y0, y1⟩ := cells2 HU.out; have f0 := Joins.unfrozen_of_block HU.out 0; have f1 := Joins.unfrozen_of_block HU.out 1))
      have HB3 : Below w.heap.size w ((w2.alloc (.cells #[.int .i64 x.p, .int .i64 x.q, .int .i64 x.v, .slice ua x.l.length uc, .int .i64 x.x, .int .i64 x.y, .int .i64 x.h, .bool x.m] 80)).alloc (.cells #[.int .i64 x.p, .int .i64 x.q, .int .i64 x.v, .slice ua x.l.length uc, .int .i64 x.x, .int .i64 x.y, .int .i64 x.h, .bool x.m] 80)) := HB2.out.trans ((below_box2 _ _).mono HB2.out.size)
      obtain ⟨_, j1⟩ := two_set HU.out (.int .i64 0) (.slice (some ⟨w2.heap.size + 1, 0, none⟩) 1 1)
      refine bodyPost_ret (v := .agg #[.int .i64 0, .slice (some ⟨w2.heap.size + 1, 0, none⟩) 1 1]) (by simp [results, Try.results11, go_sem, j1]) rfl ⟨_, fun _ => .slice ua x.l.length uc, rfl, ?_, (HB3.setCell (p := ⟨w.heap.size + 1, 0, none⟩) (show w.heap.size ≤ w.heap.size + 1 by omega) _).setCell (p := ⟨w.heap.size + 1, 1, none⟩) (show w.heap.size ≤ w.heap.size + 1 by omega) _⟩
      have hX := (blocks2 w2 (.cells #[.int .i64 x.p, .int .i64 x.q, .int .i64 x.v, .slice ua x.l.length uc, .int .i64 x.x, .int .i64 x.y, .int .i64 x.h, .bool x.m] 80) (.cells #[.int .i64 x.p, .int .i64 x.q, .int .i64 x.v, .slice ua x.l.length uc, .int .i64 x.x, .int .i64 x.y, .int .i64 x.h, .bool x.m] 80)).2.1
      have hrow3 : ((w2.alloc (.cells #[.int .i64 x.p, .int .i64 x.q, .int .i64 x.v, .slice ua x.l.length uc, .int .i64 x.x, .int .i64 x.y, .int .i64 x.h, .bool x.m] 80)).alloc (.cells #[.int .i64 x.p, .int .i64 x.q, .int .i64 x.v, .slice ua x.l.length uc, .int .i64 x.x, .int .i64 x.y, .int .i64 x.h, .bool x.m] 80)).ownsRow (w.heap.size + 1 + 1) 2 1 (.slice ua x.l.length uc) x.l.length (ints x.l) := HROW.out.kept (grown_of_below (below_box2 _ _)) (by cases Value.ownBlock (.slice ua x.l.length uc) <;> simp)
      have hO := COwn.one (lo := w.heap.size + 1 + 1) hX (by omega) hrow3
      have nb : ∀ b, (Value.slice ua x.l.length uc).ownBlock = some b → w.heap.size + 1 + 1 ≤ b := fun b hb => (hrow3.lt b hb).1
      have hne : (Value.slice (some ⟨w2.heap.size + 1, 0, none⟩) 1 1).ownBlock ≠ some (w.heap.size + 1) := fun e => by
        have e2 : w2.heap.size + 1 = w.heap.size + 1 := (by simpa [Value.ownBlock] using e)
        omega
      have hO2 := (hO.set2 (b := w.heap.size + 1) hne (fun _ _ e => by have := nb _ e; omega) 0 (.int .i64 0)).set2 (b := w.heap.size + 1) hne (fun _ _ e => by have := nb _ e; omega) 1 (.slice (some ⟨w2.heap.size + 1, 0, none⟩) 1 1)
      refine COwn.lower (hi := ((w2.alloc (.cells #[.int .i64 x.p, .int .i64 x.q, .int .i64 x.v, .slice ua x.l.length uc, .int .i64 x.x, .int .i64 x.y, .int .i64 x.h, .bool x.m] 80)).alloc (.cells #[.int .i64 x.p, .int .i64 x.q, .int .i64 x.v, .slice ua x.l.length uc, .int .i64 x.x, .int .i64 x.y, .int .i64 x.h, .bool x.m] 80)).heap.size) hO2 (by omega) (by simp)
  · have hr : atR cs (p, q) = (coinsR cs, []) := by unfold atR; rw [if_pos h0]
    rw [hr]
    obtain ⟨cd, hcd⟩ : ∃ r, r = coinsR cs := ⟨_, rfl⟩
    have hF' : Calls Try.prog 39 #[.slice a n c] ((w.alloc (.cells #[.int .i64 p, .int .i64 q] 31)).alloc (.cells #[.int .i64 0, .slice none 0 0] 28)) fun e w' => Below ((w.alloc (.cells #[.int .i64 p, .int .i64 q] 31)).alloc (.cells #[.int .i64 0, .slice none 0 0] 28)).heap.size ((w.alloc (.cells #[.int .i64 p, .int .i64 q] 31)).alloc (.cells #[.int .i64 0, .slice none 0 0] 28)) w' ∧ e = .returned (.tuple #[.map none, .int .i64 cd]) := hF.mono fun e w' h => by
      rcases h.2 with h1 | h1
      · rw [hcd]; exact ⟨h.1, h1.2⟩
      · exact absurd h1.1 h0
    rw [← hcd] at h0 ⊢
    clear hF hcd hr
    go_enter Try.func11, Try.ntmps11
    go_wp2_with (first
      | (go_at_call 39; (with_reducible refine hF'.mono ?_); clear hF'; rintro e w2 ⟨hb2, rfl⟩; have HT0 := keepb T0.out hb2; have HT1 := keepb T1.out hb2; have HB2 : Hid (Below w.heap.size w w2) := HBX.out.trans (hb2.mono HBX.out.size); obtain ⟨s0, s1⟩ := cells2 HT0.out; obtain ⟨y0, y1⟩ := cells2 HT1.out; have f0 := Joins.unfrozen_of_block HT1.out 0; have f1 := Joins.unfrozen_of_block HT1.out 1; have hsz2 := hb2.size; rw [HSZ.out] at hsz2; clear hb2))
    obtain ⟨_, j1⟩ := two_set HT1.out (.int .i64 cd) (.slice none 0 0)
    have HB3 := HB2.out
    refine bodyPost_ret (v := .agg #[.int .i64 cd, .slice none 0 0]) (by simp [results, Try.results11, go_sem, j1]) rfl ⟨_, _, rfl, COwn.zero _, (HB3.setCell (p := ⟨w.heap.size + 1, 0, none⟩) (show w.heap.size ≤ w.heap.size + 1 by omega) _).setCell (p := ⟨w.heap.size + 1, 1, none⟩) (show w.heap.size ≤ w.heap.size + 1 by omega) _⟩

end Go.Proofs.Ytbjgngabdcknnaa
