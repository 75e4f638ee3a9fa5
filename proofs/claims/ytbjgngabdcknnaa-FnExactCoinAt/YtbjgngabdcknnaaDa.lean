/- The specification's CoinAt: where a coin stands; the answer. -/
import Derived.Test.YtbjgngabdcknnaaCz
namespace Go.Proofs.Ytbjgngabdcknnaa
open Go.RowKit Go.Maps Go.WideMaps

theorem take_coin2 {cs : List Co} {n j : Nat} {o : Co} (hn : cs.length = n) (hlt : j < n) (ho : o = cs.getD j C0) : cs.take (j + 1) = cs.take j ++ [o] := by
  have e : cs.getD j C0 = cs[j]'(by omega) := by simp [List.getD, List.getElem?_eq_getElem (show j < cs.length by omega)]
  rw [List.take_add_one, ho, e, List.getElem?_eq_getElem (by omega)]; rfl
theorem find_next {cs : List Co} {n j : Nat} {o : Co} {P : Co → Bool} (hn : cs.length = n) (hlt : j < n) (ho : o = cs.getD j C0) (h : (cs.take j).find? P = none) (hp : P o = false) : (cs.take (j + 1)).find? P = none := by
  rw [take_coin2 hn hlt ho, List.find?_append, h]
  simp [hp]
theorem find_here {cs : List Co} {n j : Nat} {o : Co} {P : Co → Bool} (hn : cs.length = n) (hlt : j < n) (ho : o = cs.getD j C0) (h : (cs.take j).find? P = none) (hp : P o = true) : cs.find? P = some o := by
  rw [← List.take_append_drop j cs, List.find?_append, h, next_coin hn hlt ho]
  simp [hp]

/-- Where the coin of a ref stands, or -1. -/
def AtI (cs : List Co) (n : Nat) (p q i : Int) : Prop := (i = -1 ∧ cs.find? (fun c : Co => decide ((c.p, c.q) = (p, q))) = none) ∨ ∃ k : Nat, k < n ∧ i = k ∧ cs.find? (fun c : Co => decide ((c.p, c.q) = (p, q))) = some (cs.getD k C0)

set_option maxHeartbeats 1000000 in
theorem l4At_any (n c : Nat) (a : Option Addr) (cs : List Co) (p q : Int) (w : World) (hn : n ≤ 1048576) (hC : CAt w a n cs) :
    Calls Try.prog 36 #[.slice a n c, .agg #[.int .i64 p, .int .i64 q]] w fun e w' => ∃ i : Int, e = .returned (.int .i64 i) ∧ Hid (AtI cs n p q i) ∧ Below w.heap.size w w' := by
  have HC : Hid (CAt w a n cs) := hC
  have HN : Hid (cs.length = n) := hC.1
  clear hC
  go_enter Try.func36, Try.ntmps36
  go_wp2
  go_loopw [5] (fun i wr => ∃ k : Nat, k ≤ n ∧ i = .int .i64 k ∧ Hid ((cs.take k).find? (fun c : Co => decide ((c.p, c.q) = (p, q))) = none) ∧ wr.cell? ⟨w.heap.size, 0, none⟩ = some (.int .i64 p) ∧ wr.cell? ⟨w.heap.size, 1, none⟩ = some (.int .i64 q) ∧ Below w.heap.size w wr) (fun i _ => n - (intOf i).toNat)
  case atStart => exact ⟨0, Nat.zero_le _, rfl, by show _ = _; simp, by simp, by simp, below_box _⟩
  case round =>
    obtain ⟨k, hk, rfl, HJ, hp, hq, hbel⟩ := hrel
    by_cases hlt : k < n
    · rcases HC.out.2 with h0 | ⟨b, off, e0, l0, d0⟩
      · omega
      subst e0
      obtain ⟨o, ho⟩ : ∃ o, o = cs.getD k C0 := ⟨_, rfl⟩
      obtain ⟨ka, kc, p0, p4, p5⟩ := d0 k hlt
      rw [← ho] at p0
      have HS : Hid (o = cs.getD k C0) := ho
      obtain ⟨op, oq, ov, ol, ox, oy, oh, om⟩ := o
      obtain ⟨x0, x1, _⟩ := p0.below hbel l0
      simp only at x0 x1
      clear ho d0 p0 p4 p5
      have hki : (k : Int) < (n : Int) := by omega
      by_cases h1 : op = p
      · have e1 : (op == p) = true := by simp [h1]
        have H1 : Hid (op = p) := h1
        clear h1
        by_cases h2 : oq = q
        · have e2 : (oq == q) = true := by simp [h2]
          have HF : Hid (cs.find? (fun c : Co => decide ((c.p, c.q) = (p, q))) = some (cs.getD k C0)) := by
            show _ = _
            rw [← HS.out]
            exact find_here HN.out hlt HS.out HJ.out (decide_eq_true (by simp [H1.out, h2]))
          clear h2
          go_wp2
          go_quiet (fail)
          go_wp2
          go_ret
          exact ⟨_, rfl, .inr ⟨k, hlt, rfl, HF.out⟩, hbel.trans (Joins.below_draws _ _ _)⟩
        · have e2 : (oq == q) = false := by simp [h2]
          have HF : Hid ((cs.take (k + 1)).find? (fun c : Co => decide ((c.p, c.q) = (p, q))) = none) := find_next HN.out hlt HS.out HJ.out (decide_eq_false (by simp [h2]))
          clear h2
          go_wp2
          go_quiet (fail)
          go_wp2
          go_roundw
          case rel => exact ⟨k + 1, by omega, by go_num, HF.out, by simpa using hp, by simpa using hq, hbel.trans (Joins.below_draws _ _ _)⟩
          case measure => simp [intOf]; omega
      · have e1 : (op == p) = false := by simp [h1]
        have HF : Hid ((cs.take (k + 1)).find? (fun c : Co => decide ((c.p, c.q) = (p, q))) = none) := find_next HN.out hlt HS.out HJ.out (decide_eq_false (by simp [h1]))
        clear h1
        go_wp2
        go_quiet (fail)
        go_wp2
        go_roundw
        case rel => exact ⟨k + 1, by omega, by go_num, HF.out, by simpa using hp, by simpa using hq, hbel.trans (Joins.below_draws _ _ _)⟩
        case measure => simp [intOf]; omega
    · have HF : Hid (cs.find? (fun c : Co => decide ((c.p, c.q) = (p, q))) = none) := by have := HJ.out; rwa [List.take_of_length_le (by rw [HN.out]; omega)] at this
      go_wp2
      go_ret
      exact ⟨_, rfl, .inl ⟨rfl, HF.out⟩, hbel⟩

theorem CAt.sub {w : World} {b off n k : Nat} {cs : List Co} (h : CAt w (some ⟨b, off, none⟩) n cs) (hk : k < n) : CAt w (some ⟨b, off + k * 8, none⟩) 1 [cs.getD k C0] := by
  rcases h.2 with h0 | ⟨b', off', e, hl, hc⟩
  · omega
  · cases e
    refine ⟨rfl, .inr ⟨b, off + k * 8, rfl, hl, fun j hj => ?_⟩⟩
    obtain rfl : j = 0 := by omega
    have := hc k hk
    simpa using this

theorem one_coin {x : Co} (h : coinR x = 0) : ∀ j, j < 1 → coinR ([x].getD j C0) = 0 := fun j hj => by
  obtain rfl : j = 0 := by omega
  exact h
theorem at_none {cs : List Co} {n : Nat} {p q i : Int} (h : AtI cs n p q i) (hf : cs.find? (fun c : Co => decide ((c.p, c.q) = (p, q))) = none) : i = -1 := by
  rcases h with h | ⟨k, _, _, h3⟩
  · exact h.1
  · rw [hf] at h3; cases h3
theorem at_some {cs : List Co} {n : Nat} {p q i : Int} {x : Co} (h : AtI cs n p q i) (hf : cs.find? (fun c : Co => decide ((c.p, c.q) = (p, q))) = some x) : ∃ k : Nat, k < n ∧ i = k ∧ Hid (x = cs.getD k C0) := by
  rcases h with h | ⟨k, h1, h2, h3⟩
  · rw [hf] at h; cases h.2
  · rw [hf] at h3; exact ⟨k, h1, h2, Option.some.inj h3⟩
theorem own_slice {w : World} {lo hi n : Nat} {v : Value} {f : Nat → Co} {kv : Nat → Value} (h : COwn w lo hi v n f kv) : ∃ a c, v = .slice a n c := by
  obtain ⟨xs, h1, _⟩ := h.row
  rcases h1.2 with ⟨rfl, rfl⟩ | ⟨g, cap, cur, rfl, _⟩
  · exact ⟨none, 0, rfl⟩
  · exact ⟨_, cap, rfl⟩

set_option maxRecDepth 20000 in
set_option maxHeartbeats 2000000 in
theorem sCoinAt_any (n c : Nat) (a : Option Addr) (cs : List Co) (p q : Int) (w : World) (hn : n ≤ 1048576) (hc1 : n ≤ c) (hc2 : c ≤ maxLen) (hk : ∀ j, j < n → (cs.getD j C0).l.length ≤ 1048576) (hC : CAt w a n cs) :
    Calls Try.prog 8 #[.slice a n c, .agg #[.int .i64 p, .int .i64 q]] w fun e w' => OutCs w w' e (atR cs (p, q)).1 (atR cs (p, q)).2 := by
  unfold maxLen at hc2
  obtain ⟨t0, t1, t2⟩ := blocks2 w (.cells #[.int .i64 p, .int .i64 q] 31) (.cells #[.int .i64 0, .slice none 0 0] 28)
  have hbx : Below w.heap.size w ((w.alloc (.cells #[.int .i64 p, .int .i64 q] 31)).alloc (.cells #[.int .i64 0, .slice none 0 0] 28)) := below_box2 _ _
  have hF := l4Fault_any n c a cs ((w.alloc (.cells #[.int .i64 p, .int .i64 q] 31)).alloc (.cells #[.int .i64 0, .slice none 0 0] 28)) hn hk (hC.below hbx (Nat.le_refl _))
  have HBX : Hid (Below w.heap.size w ((w.alloc (.cells #[.int .i64 p, .int .i64 q] 31)).alloc (.cells #[.int .i64 0, .slice none 0 0] 28))) := hbx
  have T0 : Hid (((w.alloc (.cells #[.int .i64 p, .int .i64 q] 31)).alloc (.cells #[.int .i64 0, .slice none 0 0] 28)).heap[w.heap.size]? = some (.cells #[.int .i64 p, .int .i64 q] 31 (0, 0))) := t0
  have T1 : Hid (((w.alloc (.cells #[.int .i64 p, .int .i64 q] 31)).alloc (.cells #[.int .i64 0, .slice none 0 0] 28)).heap[w.heap.size + 1]? = some (.cells #[.int .i64 0, .slice none 0 0] 28 (0, 0))) := t1
  have HC : Hid (CAt w a n cs) := hC
  obtain ⟨cd, hcd⟩ : ∃ r, r = coinsR cs := ⟨_, rfl⟩
  rw [← hcd] at hF
  clear hbx t0 t1 t2 hk
  by_cases h0 : cd = 0
  · subst h0
    obtain ⟨h40, hok, _⟩ := coins_rise hcd.symm
    have HOK : Hid (∀ c ∈ cs, coinR c = 0) := hok
    cases hfd : cs.find? (fun c : Co => decide ((c.p, c.q) = (p, q))) with
    | none =>
      have hr : atR cs (p, q) = (4, []) := by unfold atR; rw [if_neg (by simp [← hcd]), hfd]
      rw [hr]
      have HFD : Hid (cs.find? (fun c : Co => decide ((c.p, c.q) = (p, q))) = none) := hfd
      clear hr hfd hcd hC hok
      go_enter Try.func8, Try.ntmps8
      go_wp2_with (first
        | (go_at_call 35; (with_reducible refine hF.mono ?_); clear hF; rintro e w2 ⟨rfl, hb2⟩; have HT0 := keepb T0.out hb2; have HT1 := keepb T1.out hb2; have HB2 : Hid (Below w.heap.size w w2) := HBX.out.trans (hb2.mono HBX.out.size); obtain ⟨s0, s1⟩ := cells2 HT0.out; obtain ⟨y0, y1⟩ := cells2 HT1.out; have f0 := Joins.unfrozen_of_block HT1.out 0; have f1 := Joins.unfrozen_of_block HT1.out 1; clear hb2; have hA := l4At_any n c a cs p q w2 hn (HC.out.below HB2.out (Nat.le_refl _)))
        | (go_at_call 36; (with_reducible refine hA.mono ?_); clear hA; rintro e w3 ⟨i, rfl, HI, hb3⟩; obtain rfl := at_none HI.out HFD.out; have HT3 := keepb HT1.out hb3; have HB3 : Hid (Below w.heap.size w w3) := HB2.out.trans (hb3.mono HB2.out.size); clear y0 y1 f0 f1 s0 s1; obtain ⟨y0, y1⟩ := cells2 HT3.out; have f0 := Joins.unfrozen_of_block HT3.out 0; have f1 := Joins.unfrozen_of_block HT3.out 1; clear hb3))
      obtain ⟨_, j1⟩ := two_set HT3.out (.int .i64 4) (.slice none 0 0)
      have HB := HB3.out
      refine bodyPost_ret (v := .agg #[.int .i64 4, .slice none 0 0]) (by simp [results, Try.results8, go_sem, j1]) rfl ⟨_, _, rfl, COwn.zero _, (HB.setCell (p := ⟨w.heap.size + 1, 0, none⟩) (show w.heap.size ≤ w.heap.size + 1 by omega) _).setCell (p := ⟨w.heap.size + 1, 1, none⟩) (show w.heap.size ≤ w.heap.size + 1 by omega) _⟩
    | some x =>
      have hr : atR cs (p, q) = (0, [x]) := by unfold atR; rw [if_neg (by simp [← hcd]), hfd]
      rw [hr]
      have HFD : Hid (cs.find? (fun c : Co => decide ((c.p, c.q) = (p, q))) = some x) := hfd
      have HX0 : Hid (coinR x = 0) := hok x (List.mem_of_find?_eq_some hfd)
      have hn0 : ¬ n = 0 := fun e => by
        have h1 : cs = [] := List.length_eq_zero_iff.1 (hC.1.trans e)
        rw [h1] at hfd; cases hfd
      rcases hC.2 with h1 | ⟨b, off, rfl, hbl, _⟩
      · exact absurd h1 hn0
      clear hr hfd hcd hC hok hn0
      go_enter Try.func8, Try.ntmps8
      go_wp2_with (first
        | (go_at_call 35; (with_reducible refine hF.mono ?_); clear hF; rintro e w2 ⟨rfl, hb2⟩; have HT0 := keepb T0.out hb2; have HT1 := keepb T1.out hb2; have HB2 : Hid (Below w.heap.size w w2) := HBX.out.trans (hb2.mono HBX.out.size); obtain ⟨s0, s1⟩ := cells2 HT0.out; obtain ⟨y0, y1⟩ := cells2 HT1.out; have f0 := Joins.unfrozen_of_block HT1.out 0; have f1 := Joins.unfrozen_of_block HT1.out 1; clear hb2; have hA := l4At_any n c (some ⟨b, off, none⟩) cs p q w2 hn (HC.out.below HB2.out (Nat.le_refl _)))
        | (go_at_call 36; (with_reducible refine hA.mono ?_); clear hA; rintro e w3 ⟨i, rfl, HI, hb3⟩; obtain ⟨k, hkn, rfl, HXK⟩ := at_some HI.out HFD.out; have HT3 := keepb HT1.out hb3; have HB3 : Hid (Below w.heap.size w w3) := HB2.out.trans (hb3.mono HB2.out.size); clear y0 y1 f0 f1 s0 s1; obtain ⟨y0, y1⟩ := cells2 HT3.out; have f0 := Joins.unfrozen_of_block HT3.out 0; have f1 := Joins.unfrozen_of_block HT3.out 1; clear hb3; have hki : (k : Int) < (n : Int) := (by omega); have hkc : (k : Int) + 1 ≤ (c : Int) := (by omega); have hkc2 : (k : Int) ≤ (c : Int) := (by omega); have hcp := l4Copy_any 1 (c - k) (some ⟨b, off + k * 8, none⟩) [x] w3 (by omega) (one_coin HX0.out) (by rw [HXK.out]; exact (HC.out.below HB3.out (Nat.le_refl _)).sub hkn))
        | (go_at_call 37; refine hcp.mono ?_; clear hcp; rintro e w4 ⟨v, kv, rfl, hO, hb4⟩; obtain ⟨va, vc, rfl⟩ := own_slice hO; have hO4 := hO; have HT4 := keepb HT3.out hb4; have HB4 : Hid (Below w.heap.size w w4) := HB3.out.trans (hb4.mono HB3.out.size); clear y0 y1 f0 f1; obtain ⟨y0, y1⟩ := cells2 HT4.out; have f0 := Joins.unfrozen_of_block HT4.out 0; have f1 := Joins.unfrozen_of_block HT4.out 1; clear hb4))
      have HB := HB4.out
      have hs3 := HB3.out.size
      obtain ⟨_, j1⟩ := two_set HT4.out (.int .i64 0) (.slice va 1 vc)
      refine bodyPost_ret (v := .agg #[.int .i64 0, .slice va 1 vc]) (by simp [results, Try.results8, go_sem, j1]) rfl ⟨_, kv, rfl, ?_, (HB.setCell (p := ⟨w.heap.size + 1, 0, none⟩) (show w.heap.size ≤ w.heap.size + 1 by omega) _).setCell (p := ⟨w.heap.size + 1, 1, none⟩) (show w.heap.size ≤ w.heap.size + 1 by omega) _⟩
      have hl3 := lt_of_block HT3.out
      have nv : (Value.slice va 1 vc).ownBlock ≠ some (w.heap.size + 1) := fun e => by
        obtain ⟨xs, h1, _⟩ := hO4.row
        have := (h1.lt _ e).1
        omega
      have nk : ∀ j, j < 1 → (kv j).ownBlock ≠ some (w.heap.size + 1) := fun j hj e => by have := ((hO4.keys j hj).1.lt _ e).1; omega
      exact ((hO4.set2 nv nk 0 (.int .i64 0)).set2 nv nk 1 (.slice va 1 vc)).lower hs3 (by simp)
  · have hr : atR cs (p, q) = (cd, []) := by unfold atR; rw [← hcd, if_pos h0]
    rw [hr]
    clear hr hcd hC
    go_enter Try.func8, Try.ntmps8
    go_wp2_with (first
      | (go_at_call 35; (with_reducible refine hF.mono ?_); clear hF; rintro e w2 ⟨rfl, hb2⟩; have HT0 := keepb T0.out hb2; have HT1 := keepb T1.out hb2; have HB2 : Hid (Below w.heap.size w w2) := HBX.out.trans (hb2.mono HBX.out.size); obtain ⟨s0, s1⟩ := cells2 HT0.out; obtain ⟨y0, y1⟩ := cells2 HT1.out; have f0 := Joins.unfrozen_of_block HT1.out 0; have f1 := Joins.unfrozen_of_block HT1.out 1; clear hb2))
    obtain ⟨_, j1⟩ := two_set HT1.out (.int .i64 cd) (.slice none 0 0)
    have HB := HB2.out
    refine bodyPost_ret (v := .agg #[.int .i64 cd, .slice none 0 0]) (by simp [results, Try.results8, go_sem, j1]) rfl ⟨_, _, rfl, COwn.zero _, (HB.setCell (p := ⟨w.heap.size + 1, 0, none⟩) (show w.heap.size ≤ w.heap.size + 1 by omega) _).setCell (p := ⟨w.heap.size + 1, 1, none⟩) (show w.heap.size ≤ w.heap.size + 1 by omega) _⟩

end Go.Proofs.Ytbjgngabdcknnaa
