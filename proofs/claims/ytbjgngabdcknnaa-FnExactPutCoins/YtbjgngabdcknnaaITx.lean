/- The program's fault of a transaction: kinds, refs, outs. The program's fault of a transaction: its parts and the whole. The program's TxFault keeps its contract. -/
import Derived.Test.YtbjgngabdcknnaaTxS
import Derived.Test.YtbjgngabdcknnaaOpT
import Derived.Test.YtbjgngabdcknnaaRu
namespace Go.Proofs.Ytbjgngabdcknnaa
open Go.RowKit Go.Maps Go.WideMaps

theorem isValue_any (v : Int) (w : World) : Calls Try.prog 99 #[.int .i64 v] w fun e w' => e = .returned (.bool (inB v 1 1000000)) ∧ w' = w := by
  go_enter Try.func99, Try.ntmps99
  go_wp2_with (go_at_call 96; refine (isWithin_any _ _ _ _).mono ?_; rintro e w' ⟨rfl, rfl⟩)
  go_ret
  exact ⟨rfl, rfl⟩

theorem isTxId_any (v : Int) (w : World) : Calls Try.prog 91 #[.int .i64 v] w fun e w' => e = .returned (.bool (inB v 1 60)) ∧ w' = w := by
  go_enter Try.func91, Try.ntmps91
  go_wp2_with (go_at_call 96; refine (isWithin_any _ _ _ _).mono ?_; rintro e w' ⟨rfl, rfl⟩)
  go_ret
  exact ⟨rfl, rfl⟩

theorem isRef_any (a b : Int) (w : World) : Calls Try.prog 98 #[.agg #[.int .i64 a, .int .i64 b]] w fun e w' => e = .returned (.bool (refB (a, b))) ∧ Below w.heap.size w w' := by
  obtain ⟨ka, hka⟩ : ∃ k, k = inB a 1 60 := ⟨_, rfl⟩
  obtain ⟨kb, hkb⟩ : ∃ k, k = inB b 0 3 := ⟨_, rfl⟩
  have hr : refB (a, b) = (ka && kb) := by rw [hka, hkb]; rfl
  have h1 : ∀ v, Calls Try.prog 91 #[.int .i64 a] v fun e w' => e = .returned (.bool ka) ∧ w' = v := fun v => by rw [hka]; exact isTxId_any _ v
  have h2 : ∀ v, Calls Try.prog 96 #[.int .i64 b, .int .i64 0, .int .i64 3] v fun e w' => e = .returned (.bool kb) ∧ w' = v := fun v => by rw [hkb]; exact isWithin_any _ _ _ v
  rw [hr]
  clear hka hkb hr
  have hbx : Below w.heap.size w (w.alloc (.cells #[.int .i64 a, .int .i64 b] 31)) := below_box _
  cases ka <;> cases kb
  all_goals
    go_enter Try.func98, Try.ntmps98
    go_wp2_with (first | (go_at_call 91; refine (h1 _).mono ?_; rintro e w' ⟨rfl, hw⟩; have hw2 := hw.symm; subst hw2) | (go_at_call 96; refine (h2 _).mono ?_; rintro e w' ⟨rfl, hw⟩; have hw2 := hw.symm; subst hw2))
    go_ret
    exact ⟨rfl, hbx⟩

end Go.Proofs.Ytbjgngabdcknnaa

namespace Go.Proofs.Ytbjgngabdcknnaa
open Go.RowKit Go.Maps Go.WideMaps

set_option maxHeartbeats 1000000 in
theorem outsFault_any (m d : Nat) (oa : Option Addr) (os : List Ou) (w : World) (hm : m ≤ 1048576) (hk : ∀ j, j < m → (os.getD j O0).l.length ≤ 1048576) (hO : OAt w oa m os) :
    Calls Try.prog 93 #[.slice oa m d] w fun e w' => e = .returned (.int .i64 (outsR os)) ∧ Below w.heap.size w w' := by
  have HO : Hid (OAt w oa m os) := hO
  have HN : Hid (os.length = m) := hO.1
  have HKL : Hid (∀ j, j < m → (os.getD j O0).l.length ≤ 1048576) := hk
  obtain ⟨r, hr⟩ : ∃ r, r = outsR os := ⟨_, rfl⟩
  rw [← hr]
  have HR : Hid (r = outsR os) := hr
  clear hO hk hr
  go_enter Try.func93, Try.ntmps93
  go_wp2
  go_loopw [8] (fun i wr => ∃ j : Nat, j ≤ m ∧ i = .int .i64 j ∧ Below w.heap.size w wr ∧ Hid (outsR os = outsR (os.drop j))) (fun i _ => m - (intOf i).toNat)
  case atStart => exact ⟨0, Nat.zero_le _, rfl, Below.refl _ _, by show _ = _; simp⟩
  case round =>
    obtain ⟨j, hj, rfl, hbel, HT⟩ := hrel
    by_cases hlt : j < m
    · rcases HO.out.2 with h0 | ⟨b, off, e0, l0, d0⟩
      · omega
      subst e0
      obtain ⟨o, ho⟩ : ∃ o, o = os.getD j O0 := ⟨_, rfl⟩
      obtain ⟨ka, kn, kc, p0, p1, p2, p3, p4, p5⟩ := d0 j hlt
      have hol := HKL.out j hlt
      rw [← ho] at p0 p2 p3 p5 hol
      have HS : Hid (o = os.getD j O0) := ho
      obtain ⟨ov, ol, ox, oy⟩ := o
      obtain rfl := p5.1
      have x0 := (hbel.cell (p := ⟨b, off + j * 4, none⟩) l0).trans p0
      have x1 := (hbel.cell (p := ⟨b, off + j * 4 + 1, none⟩) l0).trans p1
      have x2 := (hbel.cell (p := ⟨b, off + j * 4 + 2, none⟩) l0).trans p2
      have x3 := (hbel.cell (p := ⟨b, off + j * 4 + 3, none⟩) l0).trans p3
      simp only at x0 x2 x3
      obtain ⟨cd, hcd⟩ : ∃ c, c = ruleR ol ox oy := ⟨_, rfl⟩
      have hbx : Below wr.heap.size wr (wr.alloc (.cells #[.int .i64 ov, .slice ka ol.length kc, .int .i64 ox, .int .i64 oy] 78)) := below_box _
      have hlf := iRuleFault_any ol.length kc ka ol ox oy (wr.alloc (.cells #[.int .i64 ov, .slice ka ol.length kc, .int .i64 ox, .int .i64 oy] 78)) hol ((p5.below hbel (Nat.le_refl _)).below hbx (Nat.le_refl _))
      rw [← hcd] at hlf
      have HBX : Hid (Below wr.heap.size wr (wr.alloc (.cells #[.int .i64 ov, .slice ka ol.length kc, .int .i64 ox, .int .i64 oy] 78))) := hbx
      have HCD : Hid (cd = ruleR ol ox oy) := hcd
      obtain ⟨kv, hkv⟩ : ∃ k, k = inB ov 1 1000000 := ⟨_, rfl⟩
      have hin : ∀ v, Calls Try.prog 99 #[.int .i64 ov] v fun e w' => e = .returned (.bool kv) ∧ w' = v := fun v => by rw [hkv]; exact isValue_any _ v
      have HKV : Hid (kv = inB ov 1 1000000) := hkv
      have HNX : Hid (os.drop j = (⟨ov, ol, ox, oy⟩ : Ou) :: os.drop (j + 1)) := drop_next HN.out hlt HS.out
      clear ho d0 p0 p1 p2 p3 p4 p5 hol hcd hkv hbx
      have hki : (j : Int) < (m : Int) := by omega
      cases kv
      · obtain rfl : r = 3 := by rw [HR.out, HT.out, HNX.out, outsR, if_pos HKV.out.symm]
        go_wp2_with (go_at_call 99; refine (hin _).mono ?_; rintro e w' ⟨rfl, hw⟩; have hw2 := hw.symm; subst hw2)
        go_ret
        exact ⟨rfl, hbel.trans (HBX.out.mono hbel.size)⟩
      · by_cases hc0 : cd = 0
        · have HTN : Hid (outsR os = outsR (os.drop (j + 1))) := by
            show _ = _
            rw [HT.out, HNX.out, outsR, if_neg (by rw [← HKV.out]; simp), if_neg (by rw [← HCD.out, hc0]; simp)]
          go_wp2_with (first | (go_at_call 99; refine (hin _).mono ?_; rintro e w' ⟨rfl, hw⟩; have hw2 := hw.symm; subst hw2) | (go_at_call 100; refine hlf.mono ?_; rintro e w3 ⟨rfl, hb3⟩))
          go_roundw
          case rel => exact ⟨j + 1, by omega, by go_num, (hbel.trans (HBX.out.mono hbel.size)).trans (hb3.mono (by have := hbel.size; simp; omega)), HTN⟩
          case measure => simp [intOf]; omega
        · have e1 : outsR os = cd := by rw [HT.out, HNX.out, outsR, if_neg (by rw [← HKV.out]; simp), if_pos (by rw [← HCD.out]; exact hc0), ← HCD.out]
          obtain rfl : r = cd := by rw [HR.out, e1]
          clear e1
          go_wp2_with (first | (go_at_call 99; refine (hin _).mono ?_; rintro e w' ⟨rfl, hw⟩; have hw2 := hw.symm; subst hw2) | (go_at_call 100; refine hlf.mono ?_; rintro e w3 ⟨rfl, hb3⟩))
          go_ret
          exact ⟨rfl, (hbel.trans (HBX.out.mono hbel.size)).trans (hb3.mono (by have := hbel.size; simp; omega))⟩
    · obtain rfl : r = 0 := by rw [HR.out, HT.out]; exact drop_none HN.out hlt
      go_wp2
      go_ret
      exact ⟨rfl, hbel⟩

end Go.Proofs.Ytbjgngabdcknnaa

namespace Go.Proofs.Ytbjgngabdcknnaa
open Go.RowKit Go.Maps Go.WideMaps

end Go.Proofs.Ytbjgngabdcknnaa
