/- The specification: is there a coin of a transaction? -/
import Derived.Test.YtdfijlcjmllplaaJn5
namespace Go.Proofs.Ytdfijlcjmllplaa
open Go.RowKit Go.Maps Go.WideMaps

theorem hasT_next {cs : List Co} {n j : Nat} {o : Co} {t : Int} (hn : cs.length = n) (hlt : j < n) (ho : o = cs.getD j C0) (h : hasT (cs.take j) t = false) (hne : o.p ≠ t) : hasT (cs.take (j + 1)) t = false := by
  have e : cs.getD j C0 = cs[j]'(by omega) := by simp [List.getD, List.getElem?_eq_getElem (show j < cs.length by omega)]
  rw [List.take_add_one, List.getElem?_eq_getElem (by omega), ← e, ← ho]
  unfold hasT at h ⊢
  rw [List.any_append, h]
  simp [hne]
theorem hasT_here {cs : List Co} {n j : Nat} {o : Co} {t : Int} (hn : cs.length = n) (hlt : j < n) (ho : o = cs.getD j C0) (he : o.p = t) : hasT cs t = true := by
  unfold hasT
  rw [List.any_eq_true]
  refine ⟨o, ?_, by simpa using he⟩
  rw [ho, List.getD, List.getElem?_eq_getElem (by omega)]
  exact List.getElem_mem _

set_option maxHeartbeats 1000000 in
theorem l4Of_any (n c : Nat) (a : Option Addr) (cs : List Co) (t : Int) (w : World) (hn : n ≤ 1048576) (hC : CAt w a n cs) :
    Calls Try.prog 29 #[.slice a n c, .int .i64 t] w fun e w' => e = .returned (.bool (hasT cs t)) ∧ w' = w := by
  have HC : Hid (CAt w a n cs) := hC
  have HN : Hid (cs.length = n) := hC.1
  clear hC
  go_enter Try.func29, Try.ntmps29
  go_wp2
  go_loop [5] (fun i => ∃ j : Nat, j ≤ n ∧ i = .int .i64 j ∧ Hid (hasT (cs.take j) t = false)) (fun i => n - (intOf i).toNat)
  case atStart => exact ⟨0, Nat.zero_le _, rfl, rfl⟩
  case round =>
    obtain ⟨j, hj, rfl, HH⟩ := hrel
    by_cases hlt : j < n
    · rcases HC.out.2 with h0 | ⟨b, off, e0, l0, d0⟩
      · omega
      subst e0
      obtain ⟨o, ho⟩ : ∃ o, o = cs.getD j C0 := ⟨_, rfl⟩
      obtain ⟨ka, kc, p0, _, _⟩ := d0 j hlt
      rw [← ho] at p0
      obtain ⟨x0, _⟩ := p0
      have HO : Hid (o = cs.getD j C0) := ho
      have hki : (j : Int) < (n : Int) := by omega
      clear d0 ho
      by_cases he : o.p = t
      · have HX : Hid (hasT cs t = true) := hasT_here HN.out hlt HO.out he
        go_wp2
        go_ret
        exact ⟨by rw [HX.out]; rfl, rfl⟩
      · have HX : Hid (hasT (cs.take (j + 1)) t = false) := hasT_next HN.out hlt HO.out HH.out he
        go_wp2
        go_round
        case rel => exact ⟨j + 1, by omega, by go_num, HX.out⟩
        case measure => simp [intOf]; omega
    · have HX : Hid (hasT cs t = false) := by have := HH.out; rwa [List.take_of_length_le (by rw [HN.out]; omega)] at this
      go_wp2
      go_ret
      exact ⟨by rw [HX.out]; rfl, rfl⟩

end Go.Proofs.Ytdfijlcjmllplaa
