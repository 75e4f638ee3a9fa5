/- The specification's CoinAt: where a coin stands; the answer. -/
import Derived.Test.YtngpegmfhhgkgaaGreatDoorCz
namespace Go.Proofs.YtngpegmfhhgkgaaGreatDoor
open Go.RowKit Go.Maps Go.WideMaps

theorem take_coin2 {cs : List Co} {n j : Nat} {o : Co} (hn : cs.length = n) (hlt : j < n) (ho : o = cs.getD j C0) : cs.take (j + 1) = cs.take j ++ [o] := by
  have e : cs.getD j C0 = cs[j]'(by omega) := by simp [List.getD, List.getElem?_eq_getElem (show j < cs.length by omega)]
  rw [List.take_add_one, ho, e, List.getElem?_eq_getElem (by omega)]; rfl
theorem find_next {cs : List Co} {n j : Nat} {o : Co} {P : Co → Bool} (hn : cs.length = n) (hlt : j < n) (ho : o = cs.getD j C0) (h : (cs.take j).find? P = none) (hp : P o = false) : (cs.take (j + 1)).find? P = none := by
  rw [take_coin2 hn hlt ho, List.find?_append, h]
  simp [hp]
theorem find_here {cs : List Co} {n j : Nat} {o : Co} {P : Co → Bool} (hn : cs.length = n) (hlt : j < n) (ho : o = cs.getD j C0) (h : (cs.take j).find? P = none) (hp : P o = true) : cs.find? P = some o := by
  rw [← List.take_append_drop j cs, List.find?_append, h, next_coin hn hlt ho]
  simp [hp]

/-- Where the coin of a ref stands, or -1. -/
def AtI (cs : List Co) (n : Nat) (p q i : Int) : Prop := (i = -1 ∧ cs.find? (fun c : Co => decide ((c.p, c.q) = (p, q))) = none) ∨ ∃ k : Nat, k < n ∧ i = k ∧ cs.find? (fun c : Co => decide ((c.p, c.q) = (p, q))) = some (cs.getD k C0)

set_option maxHeartbeats 1000000 in
theorem l4At_any (n c : Nat) (a : Option Addr) (cs : List Co) (p q : Int) (w : World) (hn : n ≤ 1048576) (hC : CAt w a n cs) :
    Calls Tryz.prog 42 #[.slice a n c, .agg #[.int .i64 p, .int .i64 q]] w fun e w' => ∃ i : Int, e = .returned (.int .i64 i) ∧ Hid (AtI cs n p q i) ∧ Below w.heap.size w w' := by
  have HC : Hid (CAt w a n cs) := hC
  have HN : Hid (cs.length = n) := hC.1
  clear hC
  go_enter Tryz.func42, Tryz.ntmps42
  go_wp2
  go_loopw [5] (fun i wr => ∃ k : Nat, k ≤ n ∧ i = .int .i64 k ∧ Hid ((cs.take k).find? (fun c : Co => decide ((c.p, c.q) = (p, q))) = none) ∧ wr.cell? ⟨w.heap.size, 0, none⟩ = some (.int .i64 p) ∧ wr.cell? ⟨w.heap.size, 1, none⟩ = some (.int .i64 q) ∧ Below w.heap.size w wr) (fun i _ => n - (intOf i).toNat)
  case atStart => exact ⟨0, Nat.zero_le _, rfl, by show _ = _; simp, by simp, by simp, below_box _⟩
  case round =>
    obtain ⟨k, hk, rfl, HJ, hp, hq, hbel⟩ := hrel
    by_cases hlt : k < n
    · rcases HC.out.2 with h0 | ⟨b, off, e0, l0, d0⟩
      · omega
      subst e0
      obtain ⟨o, ho⟩ : ∃ o, o = cs.getD k C0 := ⟨_, rfl⟩
      obtain ⟨ka, kc, p0, p4, p5⟩ := d0 k hlt
      rw [← ho] at p0
      have HS : Hid (o = cs.getD k C0) := ho
      obtain ⟨op, oq, ov, ol, ox, oy, oh, om⟩ := o
      obtain ⟨x0, x1, _⟩ := p0.below hbel l0
      simp only at x0 x1
      clear ho d0 p0 p4 p5
      have hki : (k : Int) < (n : Int) := by omega
      by_cases h1 : op = p
      · have e1 : (op == p) = true := by simp [h1]
        have H1 : Hid (op = p) := h1
        clear h1
        by_cases h2 : oq = q
        · have e2 : (oq == q) = true := by simp [h2]
          have HF : Hid (cs.find? (fun c : Co => decide ((c.p, c.q) = (p, q))) = some (cs.getD k C0)) := by
            show _ = _
            rw [← HS.out]
            exact find_here HN.out hlt HS.out HJ.out (decide_eq_true (by simp [H1.out, h2]))
          clear h2
          go_wp2
          go_quiet (fail)
          go_wp2
          go_ret
          exact ⟨_, rfl, .inr ⟨k, hlt, rfl, HF.out⟩, hbel.trans (Joins.below_draws _ _ _)⟩
        · have e2 : (oq == q) = false := by simp [h2]
          have HF : Hid ((cs.take (k + 1)).find? (fun c : Co => decide ((c.p, c.q) = (p, q))) = none) := find_next HN.out hlt HS.out HJ.out (decide_eq_false (by simp [h2]))
          clear h2
          go_wp2
          go_quiet (fail)
          go_wp2
          go_roundw
          case rel => exact ⟨k + 1, by omega, by go_num, HF.out, by simpa using hp, by simpa using hq, hbel.trans (Joins.below_draws _ _ _)⟩
          case measure => simp [intOf]; omega
      · have e1 : (op == p) = false := by simp [h1]
        have HF : Hid ((cs.take (k + 1)).find? (fun c : Co => decide ((c.p, c.q) = (p, q))) = none) := find_next HN.out hlt HS.out HJ.out (decide_eq_false (by simp [h1]))
        clear h1
        go_wp2
        go_quiet (fail)
        go_wp2
        go_roundw
        case rel => exact ⟨k + 1, by omega, by go_num, HF.out, by simpa using hp, by simpa using hq, hbel.trans (Joins.below_draws _ _ _)⟩
        case measure => simp [intOf]; omega
    · have HF : Hid (cs.find? (fun c : Co => decide ((c.p, c.q) = (p, q))) = none) := by have := HJ.out; rwa [List.take_of_length_le (by rw [HN.out]; omega)] at this
      go_wp2
      go_ret
      exact ⟨_, rfl, .inl ⟨rfl, HF.out⟩, hbel⟩

theorem at_none {cs : List Co} {n : Nat} {p q i : Int} (h : AtI cs n p q i) (hf : cs.find? (fun c : Co => decide ((c.p, c.q) = (p, q))) = none) : i = -1 := by
  rcases h with h | ⟨k, _, _, h3⟩
  · exact h.1
  · rw [hf] at h3; cases h3
theorem at_some {cs : List Co} {n : Nat} {p q i : Int} {x : Co} (h : AtI cs n p q i) (hf : cs.find? (fun c : Co => decide ((c.p, c.q) = (p, q))) = some x) : ∃ k : Nat, k < n ∧ i = k ∧ Hid (x = cs.getD k C0) := by
  rcases h with h | ⟨k, h1, h2, h3⟩
  · rw [hf] at h; cases h.2
  · rw [hf] at h3; exact ⟨k, h1, h2, Option.some.inj h3⟩
theorem own_slice {w : World} {lo hi n : Nat} {v : Value} {f : Nat → Co} {kv : Nat → Value} (h : COwn w lo hi v n f kv) : ∃ a c, v = .slice a n c := by
  obtain ⟨xs, h1, _⟩ := h.row
  rcases h1.2 with ⟨rfl, rfl⟩ | ⟨g, cap, cur, rfl, _⟩
  · exact ⟨none, 0, rfl⟩
  · exact ⟨_, cap, rfl⟩

end Go.Proofs.YtngpegmfhhgkgaaGreatDoor
