/- The values of coins together: the specification's sum and the program's; CoinSum. -/
import Derived.Test.YtjgilpkkfpbefaaGreatDoorJn3
import Derived.Test.YtjgilpkkfpbefaaGreatDoorTxU
namespace Go.Proofs.YtjgilpkkfpbefaaGreatDoor
open Go.RowKit Go.Maps Go.WideMaps

def valsR : List Co → Int
  | [] => 0
  | c :: t => c.v + valsR t
/-- Every value within its bounds, and not too many of them. -/
def ValsOk (cs : List Co) : Prop := ∀ c ∈ cs, 1 ≤ c.v ∧ c.v ≤ 1000000
theorem mem_getD {cs : List Co} {n j : Nat} (hj : j < n) (hn : cs.length = n) : cs.getD j C0 ∈ cs := by
  have e : cs.getD j C0 = cs[j]'(by omega) := by simp [List.getD, List.getElem?_eq_getElem (show j < cs.length by omega)]
  rw [e]; exact List.getElem_mem _
theorem vals_le {cs : List Co} (h : ValsOk cs) : 0 ≤ valsR cs ∧ valsR cs ≤ 1000000 * (cs.length : Int) := by
  induction cs with
  | nil => simp [valsR]
  | cons c t ih =>
    have h1 := ih (fun d hd => h d (List.mem_cons_of_mem _ hd))
    have h2 := h c (List.mem_cons_self ..)
    simp only [valsR, List.length_cons]
    omega
theorem vals_take {cs : List Co} {n j : Nat} {o : Co} (hn : cs.length = n) (hlt : j < n) (ho : o = cs.getD j C0) : valsR (cs.take (j + 1)) = valsR (cs.take j) + o.v := by
  have e : cs.take (j + 1) = cs.take j ++ [o] := by
    have e : cs.getD j C0 = cs[j]'(by omega) := by simp [List.getD, List.getElem?_eq_getElem (show j < cs.length by omega)]
    rw [List.take_add_one, ho, e, List.getElem?_eq_getElem (by omega)]; rfl
  rw [e]
  generalize cs.take j = l
  induction l with
  | nil => simp [valsR]
  | cons c t ih => simp only [List.cons_append, valsR, ih]; omega
theorem ValsOk.take {cs : List Co} (h : ValsOk cs) (j : Nat) : ValsOk (cs.take j) := fun c hc => h c (List.mem_of_mem_take hc)
theorem vals_bound {cs : List Co} {n j : Nat} (h : ValsOk cs) (hn : cs.length = n) (h40 : n ≤ 40) : 0 ≤ valsR (cs.take j) ∧ valsR (cs.take j) ≤ 40000000 := by
  have h1 := vals_le (h.take j)
  have h2 : (cs.take j).length ≤ 40 := by rw [List.length_take]; omega
  omega

theorem l4Sum_any (n c : Nat) (a : Option Addr) (cs : List Co) (w : World) (hn : n ≤ 40) (hv : ValsOk cs) (hC : CAt w a n cs) :
    Calls Tryz.prog 55 #[.slice a n c] w fun e w' => e = .returned (.int .i64 (valsR cs)) ∧ Below w.heap.size w w' := by
  have HC : Hid (CAt w a n cs) := hC
  have HN : Hid (cs.length = n) := hC.1
  have HVS : Hid (ValsOk cs) := hv
  clear hC hv
  go_enter Tryz.func55, Tryz.ntmps55
  go_wp2
  go_loopw [3, 4] (fun t i wr => ∃ j : Nat, j ≤ n ∧ i = .int .i64 j ∧ ∃ v : Int, t = .int .i64 v ∧ Hid (v = valsR (cs.take j)) ∧ Below w.heap.size w wr) (fun _ i _ => n - (intOf i).toNat)
  case atStart => exact ⟨0, Nat.zero_le _, rfl, _, rfl, rfl, Below.refl _ _⟩
  case round =>
    obtain ⟨j, hj, rfl, v, rfl, HT, hbel⟩ := hrel
    by_cases hlt : j < n
    · rcases HC.out.2 with h0 | ⟨b, off, e0, l0, d0⟩
      · omega
      subst e0
      obtain ⟨o, ho⟩ : ∃ o, o = cs.getD j C0 := ⟨_, rfl⟩
      obtain ⟨ka, kc, p0, p4, p5⟩ := d0 j hlt
      rw [← ho] at p0 p4 p5
      have HS : Hid (o = cs.getD j C0) := ho
      have HV := HVS.out o (by rw [ho]; exact mem_getD hlt HN.out)
      obtain ⟨op, oq, ov, ol, ox, oy, oh, om⟩ := o
      obtain ⟨x0, x1, x2, x3, x4, x5, x6, x7⟩ := p0.below hbel l0
      simp only at x0 x1 x2 x3 x4 x5 x6 x7 p4 p5 HV
      have HNX : Hid (cs.drop j = (⟨op, oq, ov, ol, ox, oy, oh, om⟩ : Co) :: cs.drop (j + 1)) := next_coin HN.out hlt HS.out
      have hki : (j : Int) < (n : Int) := by omega
      have hb0 := vals_bound (j := j) HVS.out HN.out hn
      rw [← HT.out] at hb0
      have hwr := IntWalk.i64_in (v + ov) (by omega)
      clear ho d0 p0 p4 p5
      go_wp2
      go_roundw
      case rel => exact ⟨j + 1, by omega, by go_num, _, rfl, by show _ = _; rw [vals_take HN.out hlt HS.out, HT.out], hbel⟩
      case measure => simp [intOf]; omega
    · obtain rfl : v = valsR cs := by rw [HT.out, List.take_of_length_le (by rw [HN.out]; omega)]
      go_wp2
      go_ret
      exact ⟨rfl, hbel⟩

theorem sumOf_any (n c : Nat) (a : Option Addr) (cs : List Co) (w : World) (hn : n ≤ 40) (hv : ValsOk cs) (hC : CAt w a n cs) :
    Calls Tryz.prog 97 #[.slice a n c] w fun e w' => e = .returned (.int .i64 (valsR cs)) ∧ Below w.heap.size w w' := by
  have HC : Hid (CAt w a n cs) := hC
  have HN : Hid (cs.length = n) := hC.1
  have HVS : Hid (ValsOk cs) := hv
  clear hC hv
  go_enter Tryz.func97, Tryz.ntmps97
  go_wp2
  go_loopw [3, 8] (fun t i wr => ∃ j : Nat, j ≤ n ∧ i = .int .i64 j ∧ ∃ v : Int, t = .int .i64 v ∧ Hid (v = valsR (cs.take j)) ∧ Below w.heap.size w wr) (fun _ i _ => n - (intOf i).toNat)
  case atStart => exact ⟨0, Nat.zero_le _, rfl, _, rfl, rfl, Below.refl _ _⟩
  case round =>
    obtain ⟨j, hj, rfl, v, rfl, HT, hbel⟩ := hrel
    by_cases hlt : j < n
    · rcases HC.out.2 with h0 | ⟨b, off, e0, l0, d0⟩
      · omega
      subst e0
      obtain ⟨o, ho⟩ : ∃ o, o = cs.getD j C0 := ⟨_, rfl⟩
      obtain ⟨ka, kc, p0, p4, p5⟩ := d0 j hlt
      rw [← ho] at p0 p4 p5
      have HS : Hid (o = cs.getD j C0) := ho
      have HV := HVS.out o (by rw [ho]; exact mem_getD hlt HN.out)
      obtain ⟨op, oq, ov, ol, ox, oy, oh, om⟩ := o
      obtain ⟨x0, x1, x2, x3, x4, x5, x6, x7⟩ := p0.below hbel l0
      simp only at x0 x1 x2 x3 x4 x5 x6 x7 p4 p5 HV
      have HNX : Hid (cs.drop j = (⟨op, oq, ov, ol, ox, oy, oh, om⟩ : Co) :: cs.drop (j + 1)) := next_coin HN.out hlt HS.out
      have hki : (j : Int) < (n : Int) := by omega
      have hb0 := vals_bound (j := j) HVS.out HN.out hn
      rw [← HT.out] at hb0
      have hwr := IntWalk.i64_in (v + ov) (by omega)
      clear ho d0 p0 p4 p5
      go_wp2
      go_roundw
      case rel => exact ⟨j + 1, by omega, by go_num, _, rfl, by show _ = _; rw [vals_take HN.out hlt HS.out, HT.out], hbel.alloc hbel.size _⟩
      case measure => simp [intOf]; omega
    · obtain rfl : v = valsR cs := by rw [HT.out, List.take_of_length_le (by rw [HN.out]; omega)]
      go_wp2
      go_ret
      exact ⟨rfl, hbel⟩

end Go.Proofs.YtjgilpkkfpbefaaGreatDoor
