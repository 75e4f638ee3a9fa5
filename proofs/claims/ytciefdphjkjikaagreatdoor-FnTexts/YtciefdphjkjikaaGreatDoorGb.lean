/- A number read: what it comes to, and the specification's. -/
import Derived.Test.YtciefdphjkjikaaGreatDoorJn3
namespace Go.Proofs.YtciefdphjkjikaaGreatDoor
open Go.RowKit Go.Shelf Go.Maps Go.WideMaps

def isDg (b : UInt8) : Bool := decide (48 ≤ b.toNat ∧ b.toNat ≤ 57)
def valD (t : List UInt8) : Nat := t.foldl (fun v b => v * 10 + (b.toNat - 48)) 0
def numR (t : List UInt8) (n : Nat) : Int × Bool :=
  if t.length < 1 ∨ n < t.length ∨ (1 < t.length ∧ t.getD 0 0 = 48) then (0, false) else if t.all isDg = true then ((valD t : Int), true) else (0, false)
theorem valD_snoc (t : List UInt8) (b : UInt8) : valD (t ++ [b]) = valD t * 10 + (b.toNat - 48) := by simp [valD]
theorem dg_le {b : UInt8} (h : isDg b = true) : 48 ≤ b.toNat ∧ b.toNat ≤ 57 := by simpa [isDg] using h
theorem snoc_ind {α : Type} {P : List α → Prop} (h0 : P []) (h1 : ∀ l a, P l → P (l ++ [a])) (l : List α) : P l := by
  rw [← List.reverse_reverse l]
  induction l.reverse with
  | nil => exact h0
  | cons a t ih => rw [List.reverse_cons]; exact h1 _ _ ih
theorem take_nextB {t : List UInt8} {k : Nat} {x : UInt8} (hk : k < t.length) (hx : x = t.getD k 0) : t.take (k + 1) = t.take k ++ [x] := by
  rw [List.take_add_one, hx]
  simp [List.getD, hk]

set_option maxRecDepth 20000 in
set_option maxHeartbeats 2000000 in
theorem l2Number_any (t : List UInt8) (n : Nat) (w : World) (ht : t.length ≤ 1048576) (hn : n ≤ 7) :
    Calls Tryz.prog 51 #[.string (str t), .int .i64 n] w fun e w' => e = .returned (.tuple #[.int .i64 (numR t n).1, .bool (numR t n).2]) ∧ w' = w := by
  have hss : (str t).size = t.length := rfl
  have hix : ∀ (k : Nat) hh, (str t)[k]'hh = t.getD k 0 := fun k hh => by
    have : k < t.length := hh
    simp [List.getD, this, str, ByteArray.getElem_eq_getElem_data]
  obtain ⟨rv, hrv⟩ : ∃ r, r = (numR t n).1 := ⟨_, rfl⟩
  obtain ⟨rb, hrb⟩ : ∃ r, r = (numR t n).2 := ⟨_, rfl⟩
  rw [← hrv, ← hrb]
  have HR : Hid ((rv, rb) = numR t n) := by rw [hrv, hrb]; rfl
  clear hrv hrb
  by_cases h1 : t.length < 1
  · obtain ⟨rfl, rfl⟩ : rv = 0 ∧ rb = false := Prod.mk.inj (by rw [HR.out]; unfold numR; rw [if_pos (.inl h1)])
    have hd : decide ((t.length : Int) < 1) = true := by simp; omega
    go_enter Tryz.func51, Tryz.ntmps51
    go_wp2
    exact bodyPost_ret (v := .tuple #[.int .i64 0, .bool false]) (by simp [results, Tryz.results51, go_sem]) rfl ⟨rfl, rfl⟩
  have hd1 : decide ((t.length : Int) < 1) = false := by simp; omega
  by_cases h2 : n < t.length
  · obtain ⟨rfl, rfl⟩ : rv = 0 ∧ rb = false := Prod.mk.inj (by rw [HR.out]; unfold numR; rw [if_pos (.inr (.inl h2))])
    have hd2 : decide ((n : Int) < (t.length : Int)) = true := by simp; omega
    go_enter Tryz.func51, Tryz.ntmps51
    go_wp2
    exact bodyPost_ret (v := .tuple #[.int .i64 0, .bool false]) (by simp [results, Tryz.results51, go_sem]) rfl ⟨rfl, rfl⟩
  have hd2 : decide ((n : Int) < (t.length : Int)) = false := by simp; omega
  have hl7 : t.length ≤ 7 := by omega
  obtain ⟨x0, hx0⟩ : ∃ x, x = t.getD 0 0 := ⟨_, rfl⟩
  have hi0 : ∀ hh, (str t)[0]'hh = x0 := fun hh => by rw [hix, hx0]
  by_cases h3 : 1 < t.length ∧ x0 = 48
  · obtain ⟨rfl, rfl⟩ : rv = 0 ∧ rb = false := Prod.mk.inj (by rw [HR.out]; unfold numR; rw [if_pos (.inr (.inr ⟨h3.1, by rw [← hx0]; exact h3.2⟩))])
    have hd3 : decide ((1 : Int) < (t.length : Int)) = true := by simp; omega
    have hlt : (0 : Int) < (t.length : Int) := by omega
    have hx : ((x0.toNat : Int) == 48) = true := by rw [h3.2]; rfl
    clear h3 hx0 hix
    go_enter Tryz.func51, Tryz.ntmps51
    go_wp2
    exact bodyPost_ret (v := .tuple #[.int .i64 0, .bool false]) (by simp [results, Tryz.results51, go_sem]) rfl ⟨rfl, rfl⟩
  have HR2 : Hid ((rv, rb) = if t.all isDg = true then ((valD t : Int), true) else (0, false)) := by
    show _ = _
    rw [HR.out]; unfold numR
    rw [if_neg (by rw [← hx0]; rintro (h | h | h); exact h1 h; exact h2 h; exact h3 h)]
  have hlt0 : (0 : Int) < (t.length : Int) := by omega
  have key : ∀ q : Bool, (decide ((1 : Int) < (t.length : Int)) = q) → (q = true → ((x0.toNat : Int) == 48) = false) → Calls Tryz.prog 51 #[.string (str t), .int .i64 n] w fun e w' => e = .returned (.tuple #[.int .i64 rv, .bool rb]) ∧ w' = w := by
    intro q hd3 hq
    have HIX : Hid (∀ (k : Nat) hh, (str t)[k]'hh = t.getD k 0) := hix
    clear HR hx0 h3 hix
    cases q
    all_goals
      try (have hx := hq rfl)
      clear hq
      go_enter Tryz.func51, Tryz.ntmps51
      go_wp2
      go_loopw [6, 7] (fun v i wr => ∃ k : Nat, k ≤ t.length ∧ i = .int .i64 k ∧ (∃ z : Nat, v = .int .i64 z ∧ z < 10 ^ k ∧ Hid (valD (t.take k) = z ∧ (t.take k).all isDg = true)) ∧ wr = w) (fun _ i _ => t.length - (intOf i).toNat)
      case atStart => exact ⟨0, Nat.zero_le _, rfl, ⟨0, rfl, by simp, by simp [valD], by simp⟩, rfl⟩
      case round =>
        obtain ⟨k, hk, rfl, ⟨z, rfl, hz, HV⟩, hw⟩ := hrel
        have hw2 := hw.symm
        subst hw2
        by_cases hlt : k < t.length
        · obtain ⟨x, hx⟩ : ∃ x, x = t.getD k 0 := ⟨_, rfl⟩
          have hixk : ∀ hh, (str t)[k]'hh = x := fun hh => by rw [HIX.out, hx]
          have HX : Hid (x = t.getD k 0) := hx
          have hki : (k : Int) < (t.length : Int) := by omega
          have hz6 : z < 1000000 := Nat.lt_of_lt_of_le hz (Nat.pow_le_pow_right (by omega) (show k ≤ 6 by omega))
          clear hx
          by_cases hd : isDg x = true
          · have hb := dg_le hd
            have e1 : decide ((x.toNat : Int) < 48) = false := by simp; omega
            have e2 : decide ((57 : Int) < (x.toNat : Int)) = false := by simp; omega
            have e3 : IntKind.u8.wrap ((x.toNat : Int) - 48) = ((x.toNat - 48 : Nat) : Int) := by simp [IntKind.wrap, IntKind.bits, IntKind.signed]; omega
            have e4 : IntKind.i64.wrap ((x.toNat - 48 : Nat) : Int) = ((x.toNat - 48 : Nat) : Int) := IntWalk.i64_in _ (by omega)
            have e5 : IntKind.i64.wrap ((z : Int) * 10) = (z : Int) * 10 := IntWalk.i64_in _ (by omega)
            have e6 : IntKind.i64.wrap ((z : Int) * 10 + ((x.toNat - 48 : Nat) : Int)) = ((z * 10 + (x.toNat - 48) : Nat) : Int) := by rw [IntWalk.i64_in _ (by omega)]; omega
            have HV2 : Hid (valD (t.take (k + 1)) = z * 10 + (x.toNat - 48) ∧ (t.take (k + 1)).all isDg = true) := by
              rw [take_nextB hlt HX.out, valD_snoc, HV.out.1]
              exact ⟨rfl, by rw [List.all_append, HV.out.2]; simp [hd]⟩
            have hz2 : z * 10 + (x.toNat - 48) < 10 ^ (k + 1) := by rw [Nat.pow_succ]; omega
            obtain ⟨z2, hzz⟩ : ∃ z2, z2 = z * 10 + (x.toNat - 48) := ⟨_, rfl⟩
            rw [← hzz] at e6 HV2 hz2
            clear hd hb hzz
            go_wp2
            go_roundw
            case rel => exact ⟨k + 1, by omega, by go_num, ⟨z2, by first | rfl | (simp [e6]), hz2, HV2⟩, (by first | rfl | trivial)⟩
            case measure => simp [intOf]; omega
          · have hall : t.all isDg = false := by
              refine Bool.eq_false_iff.2 fun e => hd ?_
              rw [List.all_eq_true] at e
              refine e x ?_
              rw [HX.out]
              have : t.getD k 0 = t[k] := by simp [List.getD, hlt]
              rw [this]; exact List.getElem_mem _
            obtain ⟨rfl, rfl⟩ : rv = 0 ∧ rb = false := Prod.mk.inj (by rw [HR2.out, hall]; rfl)
            have hnd : x.toNat < 48 ∨ 57 < x.toNat := by simp [isDg] at hd; omega
            clear hd hall
            by_cases hlo : x.toNat < 48
            · have e1 : decide ((x.toNat : Int) < 48) = true := by simp; omega
              go_wp2
              exact bodyPost_ret (v := .tuple #[.int .i64 0, .bool false]) (by simp [results, Tryz.results51, go_sem]) rfl ⟨rfl, rfl⟩
            · have e1 : decide ((x.toNat : Int) < 48) = false := by simp; omega
              have e2 : decide ((57 : Int) < (x.toNat : Int)) = true := by simp; omega
              go_wp2
              exact bodyPost_ret (v := .tuple #[.int .i64 0, .bool false]) (by simp [results, Tryz.results51, go_sem]) rfl ⟨rfl, rfl⟩
        · have hkt : t.take k = t := List.take_of_length_le (by omega)
          have hv := HV.out
          rw [hkt] at hv
          obtain ⟨rfl, rfl⟩ : rv = (z : Int) ∧ rb = true := Prod.mk.inj (by rw [HR2.out, hv.2, if_pos rfl, hv.1])
          clear hv
          go_wp2
          exact bodyPost_ret (v := .tuple #[.int .i64 z, .bool true]) (by simp [results, Tryz.results51, go_sem]) rfl ⟨rfl, rfl⟩
  exact key _ rfl (fun hq => by
    have h4 : (1 : Int) < (t.length : Int) := of_decide_eq_true hq
    have h5 : ¬ x0 = 48 := fun e => h3 ⟨by omega, e⟩
    refine Bool.eq_false_iff.2 fun e => h5 ?_
    have e2 : (x0.toNat : Int) = 48 := eq_of_beq e
    exact UInt8.toNat_inj.1 (show x0.toNat = 48 by omega))

end Go.Proofs.YtciefdphjkjikaaGreatDoor
