/- Numbers and blocks, written and read back: no program in it. -/
import Derived.Test.YtciefdphjkjikaaGreatDoorGa
import Derived.Test.YtciefdphjkjikaaGreatDoorGb
import Derived.Test.YtciefdphjkjikaaGreatDoorJn4
import Derived.Test.YtciefdphjkjikaaGreatDoorFc
namespace Go.Proofs.YtciefdphjkjikaaGreatDoor
open Go.RowKit Go.Shelf Go.Maps Go.WideMaps

theorem dgt_toNat {u : Nat} (h : u < 10) : (UInt8.ofNat (48 + u)).toNat = 48 + u := by
  simp [UInt8.toNat_ofNat']; omega
theorem dgt_is {u : Nat} (h : u < 10) : isDg (UInt8.ofNat (48 + u)) = true := by
  unfold isDg; rw [dgt_toNat h]; simp; omega
theorem digs_all (u : Nat) : (Lib.decDigits u).all isDg = true := by
  induction u using Nat.strongRecOn with
  | _ u ih =>
    rw [Lib.decDigits]
    by_cases h : u < 10
    · rw [dif_pos h, List.all_cons, dgt_is h]; rfl
    · rw [dif_neg h, List.all_append, ih (u / 10) (by omega)]
      rw [List.all_cons, dgt_is (show u % 10 < 10 by omega)]; rfl
theorem digs_val (u : Nat) : valD (Lib.decDigits u) = u := by
  induction u using Nat.strongRecOn with
  | _ u ih =>
    rw [Lib.decDigits]
    by_cases h : u < 10
    · rw [dif_pos h]
      have := dgt_toNat h
      show 0 * 10 + ((UInt8.ofNat (48 + u)).toNat - 48) = u
      rw [this]; omega
    · rw [dif_neg h, valD_snoc, ih (u / 10) (by omega), dgt_toNat (show u % 10 < 10 by omega)]
      omega
theorem digs_ne (u : Nat) : Lib.decDigits u ≠ [] := by
  rw [Lib.decDigits]
  by_cases h : u < 10
  · rw [dif_pos h]; simp
  · rw [dif_neg h]; simp
theorem getD_append_left {l r : List UInt8} (h : l ≠ []) : (l ++ r).getD 0 0 = l.getD 0 0 := by
  cases l with
  | nil => exact absurd rfl h
  | cons a t => rfl
theorem digs_head (u : Nat) (h : 1 ≤ u) : (Lib.decDigits u).getD 0 0 ≠ 48 := by
  induction u using Nat.strongRecOn with
  | _ u ih =>
    rw [Lib.decDigits]
    by_cases h1 : u < 10
    · rw [dif_pos h1]
      intro e
      have e2 : UInt8.ofNat (48 + u) = 48 := e
      have := congrArg UInt8.toNat e2
      rw [dgt_toNat h1] at this
      simp at this
      omega
    · rw [dif_neg h1, getD_append_left (digs_ne _)]
      exact ih (u / 10) (by omega) (by omega)
theorem digs_short {u : Nat} : ∀ {n : Nat}, u < 10 ^ n → 1 ≤ n → (Lib.decDigits u).length ≤ n := by
  induction u using Nat.strongRecOn with
  | _ u ih =>
    intro n h hn
    rw [Lib.decDigits]
    by_cases h1 : u < 10
    · rw [dif_pos h1]; simpa using hn
    · rw [dif_neg h1, List.length_append, List.length_singleton]
      obtain ⟨m, rfl⟩ : ∃ m, n = m + 1 := ⟨n - 1, by omega⟩
      rw [Nat.pow_succ] at h
      have hm : 1 ≤ m := by
        rcases m with _ | m
        · simp at h; omega
        · omega
      have := ih (u / 10) (by omega) (n := m) (by omega) hm
      omega
theorem digs_one {u : Nat} (h : 1 < (Lib.decDigits u).length) : 10 ≤ u := by
  by_cases h1 : u < 10
  · rw [Lib.decDigits, dif_pos h1] at h; simp at h
  · omega
theorem numR_dec {v : Int} {n : Nat} (h0 : 0 ≤ v) (h1 : v < ((10 ^ n : Nat) : Int)) (hn : 1 ≤ n) : numR (dec v) n = (v, true) := by
  obtain ⟨u, rfl⟩ := Int.eq_ofNat_of_zero_le h0
  have hu : u < 10 ^ n := by exact_mod_cast h1
  have hs := digs_short hu hn
  have hne := digs_ne u
  have hl : 0 < (Lib.decDigits u).length := List.length_pos_iff.2 hne
  show numR (Lib.decDigits u) n = _
  unfold numR
  rw [if_neg, if_pos (digs_all u), digs_val]
  rintro (h | h | ⟨h, h'⟩)
  · omega
  · omega
  · exact digs_head u (by have := digs_one h; omega) h'
theorem valD_pos {t : List UInt8} (h : t.all isDg = true) (hne : t ≠ []) (hh : t.getD 0 0 ≠ 48) : 1 ≤ valD t := by
  revert h hne hh
  refine snoc_ind (P := fun t => t.all isDg = true → t ≠ [] → t.getD 0 0 ≠ 48 → 1 ≤ valD t) (fun _ h _ => absurd rfl h) (fun t b ih h _ hh => ?_) t
  rw [List.all_append] at h
  simp only [Bool.and_eq_true, List.all_cons, List.all_nil, Bool.and_true] at h
  rw [valD_snoc]
  by_cases e : t = []
  · subst e
    have hb := dg_le h.2
    have : b.toNat ≠ 48 := fun e => hh (UInt8.toNat_inj.1 (by simpa using e))
    omega
  · rw [getD_append_left e] at hh
    have := ih h.1 e hh
    omega
theorem digs_of {t : List UInt8} (h : t.all isDg = true) (hne : t ≠ []) (hh : 1 < t.length → t.getD 0 0 ≠ 48) : Lib.decDigits (valD t) = t := by
  revert h hne hh
  refine snoc_ind (P := fun t => t.all isDg = true → t ≠ [] → (1 < t.length → t.getD 0 0 ≠ 48) → Lib.decDigits (valD t) = t) (fun _ h _ => absurd rfl h) (fun t b ih h _ hh => ?_) t
  rw [List.all_append] at h
  simp only [Bool.and_eq_true, List.all_cons, List.all_nil, Bool.and_true] at h
  have hb := dg_le h.2
  have eb : UInt8.ofNat (48 + (b.toNat - 48)) = b := by
    rw [show 48 + (b.toNat - 48) = b.toNat by omega]
    simp
  rw [valD_snoc]
  by_cases e : t = []
  · subst e
    have e0 : valD [] * 10 + (b.toNat - 48) = b.toNat - 48 := by simp [valD]
    rw [e0, Lib.decDigits, dif_pos (by omega), eb]
    rfl
  · have hl : 0 < t.length := List.length_pos_iff.2 e
    have h2 := hh (by rw [List.length_append, List.length_singleton]; omega)
    rw [getD_append_left e] at h2
    have h3 := valD_pos h.1 e h2
    rw [Lib.decDigits, dif_neg (by omega), show (valD t * 10 + (b.toNat - 48)) / 10 = valD t by omega, show (valD t * 10 + (b.toNat - 48)) % 10 = b.toNat - 48 by omega, ih h.1 e (fun _ => h2), eb]
theorem numR_sound {t : List UInt8} {n : Nat} (h : (numR t n).2 = true) : dec (numR t n).1 = t ∧ 0 ≤ (numR t n).1 := by
  unfold numR at h ⊢
  by_cases h1 : t.length < 1 ∨ n < t.length ∨ (1 < t.length ∧ t.getD 0 0 = 48)
  · rw [if_pos h1] at h; cases h
  · rw [if_neg h1] at h ⊢
    by_cases h2 : t.all isDg = true
    · rw [if_pos h2]
      refine ⟨?_, by simp⟩
      show Lib.decDigits ((valD t : Int)).toNat = t
      rw [Int.toNat_natCast]
      exact digs_of h2 (fun e => h1 (.inl (by rw [e]; simp))) (fun hl e => h1 (.inr (.inr ⟨hl, e⟩)))
    · rw [if_neg h2] at h; cases h
theorem join_cut (c : UInt8) (t : List UInt8) : Lib.join (cutL c t) [c] = t := by
  unfold Lib.join
  induction t with
  | nil => simp [cutL, List.intercalate]
  | cons b t ih =>
    unfold cutL
    cases e : cutL c t with
    | nil => exact absurd e (cutL_ne c t)
    | cons x r =>
      rw [e] at ih
      by_cases h : b = c
      · rw [if_pos h]
        have : List.intercalate [c] ([] :: x :: r) = c :: List.intercalate [c] (x :: r) := by simp [List.intercalate, List.intersperse]
        rw [this, ih, h]
      · rw [if_neg h]
        have : List.intercalate [c] ((b :: x) :: r) = b :: List.intercalate [c] (x :: r) := by
          cases r <;> simp [List.intercalate, List.intersperse]
        show List.intercalate [c] ((b :: x) :: r) = _
        rw [this, ih]

theorem dec_dg (v : Int) : ∀ b ∈ dec v, 48 ≤ b.toNat ∧ b.toNat ≤ 57 := fun b hb => dg_le (List.all_eq_true.1 (digs_all v.toNat) b hb)
theorem not_dec {c : UInt8} (hc : c.toNat < 48) (v : Int) : c ∉ dec v := fun h => by have := dec_dg v c h; omega
end Go.Proofs.YtciefdphjkjikaaGreatDoor
