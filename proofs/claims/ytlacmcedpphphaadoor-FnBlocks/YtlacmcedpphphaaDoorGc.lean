/- Numbers and blocks, written and read back: no program in it. -/
import Derived.Test.YtlacmcedpphphaaDoorGa
import Derived.Test.YtlacmcedpphphaaDoorGb
import Derived.Test.YtlacmcedpphphaaDoorFg
namespace Go.Proofs.YtlacmcedpphphaaDoor
open Go.RowKit Go.Shelf Go.Maps Go.WideMaps

theorem dgt_toNat {u : Nat} (h : u < 10) : (UInt8.ofNat (48 + u)).toNat = 48 + u := by
  simp [UInt8.toNat_ofNat']; omega
theorem dgt_is {u : Nat} (h : u < 10) : isDg (UInt8.ofNat (48 + u)) = true := by
  unfold isDg; rw [dgt_toNat h]; simp; omega
theorem digs_all (u : Nat) : (Lib.decDigits u).all isDg = true := by
  induction u using Nat.strongRecOn with
  | _ u ih =>
    rw [Lib.decDigits]
    by_cases h : u < 10
    · rw [dif_pos h, List.all_cons, dgt_is h]; rfl
    · rw [dif_neg h, List.all_append, ih (u / 10) (by omega)]
      rw [List.all_cons, dgt_is (show u % 10 < 10 by omega)]; rfl
theorem digs_val (u : Nat) : valD (Lib.decDigits u) = u := by
  induction u using Nat.strongRecOn with
  | _ u ih =>
    rw [Lib.decDigits]
    by_cases h : u < 10
    · rw [dif_pos h]
      have := dgt_toNat h
      show 0 * 10 + ((UInt8.ofNat (48 + u)).toNat - 48) = u
      rw [this]; omega
    · rw [dif_neg h, valD_snoc, ih (u / 10) (by omega), dgt_toNat (show u % 10 < 10 by omega)]
      omega
theorem digs_ne (u : Nat) : Lib.decDigits u ≠ [] := by
  rw [Lib.decDigits]
  by_cases h : u < 10
  · rw [dif_pos h]; simp
  · rw [dif_neg h]; simp
theorem getD_append_left {l r : List UInt8} (h : l ≠ []) : (l ++ r).getD 0 0 = l.getD 0 0 := by
  cases l with
  | nil => exact absurd rfl h
  | cons a t => rfl
theorem digs_head (u : Nat) (h : 1 ≤ u) : (Lib.decDigits u).getD 0 0 ≠ 48 := by
  induction u using Nat.strongRecOn with
  | _ u ih =>
    rw [Lib.decDigits]
    by_cases h1 : u < 10
    · rw [dif_pos h1]
      intro e
      have e2 : UInt8.ofNat (48 + u) = 48 := e
      have := congrArg UInt8.toNat e2
      rw [dgt_toNat h1] at this
      simp at this
      omega
    · rw [dif_neg h1, getD_append_left (digs_ne _)]
      exact ih (u / 10) (by omega) (by omega)
theorem digs_short {u : Nat} : ∀ {n : Nat}, u < 10 ^ n → 1 ≤ n → (Lib.decDigits u).length ≤ n := by
  induction u using Nat.strongRecOn with
  | _ u ih =>
    intro n h hn
    rw [Lib.decDigits]
    by_cases h1 : u < 10
    · rw [dif_pos h1]; simpa using hn
    · rw [dif_neg h1, List.length_append, List.length_singleton]
      obtain ⟨m, rfl⟩ : ∃ m, n = m + 1 := ⟨n - 1, by omega⟩
      rw [Nat.pow_succ] at h
      have hm : 1 ≤ m := by
        rcases m with _ | m
        · simp at h; omega
        · omega
      have := ih (u / 10) (by omega) (n := m) (by omega) hm
      omega
theorem digs_one {u : Nat} (h : 1 < (Lib.decDigits u).length) : 10 ≤ u := by
  by_cases h1 : u < 10
  · rw [Lib.decDigits, dif_pos h1] at h; simp at h
  · omega
theorem numR_dec {v : Int} {n : Nat} (h0 : 0 ≤ v) (h1 : v < ((10 ^ n : Nat) : Int)) (hn : 1 ≤ n) : numR (dec v) n = (v, true) := by
  obtain ⟨u, rfl⟩ := Int.eq_ofNat_of_zero_le h0
  have hu : u < 10 ^ n := by exact_mod_cast h1
  have hs := digs_short hu hn
  have hne := digs_ne u
  have hl : 0 < (Lib.decDigits u).length := List.length_pos_iff.2 hne
  show numR (Lib.decDigits u) n = _
  unfold numR
  rw [if_neg, if_pos (digs_all u), digs_val]
  rintro (h | h | ⟨h, h'⟩)
  · omega
  · omega
  · exact digs_head u (by have := digs_one h; omega) h'
theorem valD_pos {t : List UInt8} (h : t.all isDg = true) (hne : t ≠ []) (hh : t.getD 0 0 ≠ 48) : 1 ≤ valD t := by
  revert h hne hh
  refine snoc_ind (P := fun t => t.all isDg = true → t ≠ [] → t.getD 0 0 ≠ 48 → 1 ≤ valD t) (fun _ h _ => absurd rfl h) (fun t b ih h _ hh => ?_) t
  rw [List.all_append] at h
  simp only [Bool.and_eq_true, List.all_cons, List.all_nil, Bool.and_true] at h
  rw [valD_snoc]
  by_cases e : t = []
  · subst e
    have hb := dg_le h.2
    have : b.toNat ≠ 48 := fun e => hh (UInt8.toNat_inj.1 (by simpa using e))
    omega
  · rw [getD_append_left e] at hh
    have := ih h.1 e hh
    omega
theorem digs_of {t : List UInt8} (h : t.all isDg = true) (hne : t ≠ []) (hh : 1 < t.length → t.getD 0 0 ≠ 48) : Lib.decDigits (valD t) = t := by
  revert h hne hh
  refine snoc_ind (P := fun t => t.all isDg = true → t ≠ [] → (1 < t.length → t.getD 0 0 ≠ 48) → Lib.decDigits (valD t) = t) (fun _ h _ => absurd rfl h) (fun t b ih h _ hh => ?_) t
  rw [List.all_append] at h
  simp only [Bool.and_eq_true, List.all_cons, List.all_nil, Bool.and_true] at h
  have hb := dg_le h.2
  have eb : UInt8.ofNat (48 + (b.toNat - 48)) = b := by
    rw [show 48 + (b.toNat - 48) = b.toNat by omega]
    simp
  rw [valD_snoc]
  by_cases e : t = []
  · subst e
    have e0 : valD [] * 10 + (b.toNat - 48) = b.toNat - 48 := by simp [valD]
    rw [e0, Lib.decDigits, dif_pos (by omega), eb]
    rfl
  · have hl : 0 < t.length := List.length_pos_iff.2 e
    have h2 := hh (by rw [List.length_append, List.length_singleton]; omega)
    rw [getD_append_left e] at h2
    have h3 := valD_pos h.1 e h2
    rw [Lib.decDigits, dif_neg (by omega), show (valD t * 10 + (b.toNat - 48)) / 10 = valD t by omega, show (valD t * 10 + (b.toNat - 48)) % 10 = b.toNat - 48 by omega, ih h.1 e (fun _ => h2), eb]
theorem numR_sound {t : List UInt8} {n : Nat} (h : (numR t n).2 = true) : dec (numR t n).1 = t ∧ 0 ≤ (numR t n).1 := by
  unfold numR at h ⊢
  by_cases h1 : t.length < 1 ∨ n < t.length ∨ (1 < t.length ∧ t.getD 0 0 = 48)
  · rw [if_pos h1] at h; cases h
  · rw [if_neg h1] at h ⊢
    by_cases h2 : t.all isDg = true
    · rw [if_pos h2]
      refine ⟨?_, by simp⟩
      show Lib.decDigits ((valD t : Int)).toNat = t
      rw [Int.toNat_natCast]
      exact digs_of h2 (fun e => h1 (.inl (by rw [e]; simp))) (fun hl e => h1 (.inr (.inr ⟨hl, e⟩)))
    · rw [if_neg h2] at h; cases h
theorem join_cut (c : UInt8) (t : List UInt8) : Lib.join (cutL c t) [c] = t := by
  unfold Lib.join
  induction t with
  | nil => simp [cutL, List.intercalate]
  | cons b t ih =>
    unfold cutL
    cases e : cutL c t with
    | nil => exact absurd e (cutL_ne c t)
    | cons x r =>
      rw [e] at ih
      by_cases h : b = c
      · rw [if_pos h]
        have : List.intercalate [c] ([] :: x :: r) = c :: List.intercalate [c] (x :: r) := by simp [List.intercalate, List.intersperse]
        rw [this, ih, h]
      · rw [if_neg h]
        have : List.intercalate [c] ((b :: x) :: r) = b :: List.intercalate [c] (x :: r) := by
          cases r <;> simp [List.intercalate, List.intersperse]
        show List.intercalate [c] ((b :: x) :: r) = _
        rw [this, ih]

theorem dec_dg (v : Int) : ∀ b ∈ dec v, 48 ≤ b.toNat ∧ b.toNat ≤ 57 := fun b hb => dg_le (List.all_eq_true.1 (digs_all v.toNat) b hb)
theorem not_dec {c : UInt8} (hc : c.toNat < 48) (v : Int) : c ∉ dec v := fun h => by have := dec_dg v c h; omega
theorem plusTail_mem {l : List Int} {b : UInt8} (h : b ∈ plusTail l) : b = 43 ∨ 48 ≤ b.toNat := by
  induction l with
  | nil => cases h
  | cons k t ih =>
    rw [plusTail] at h
    rcases List.mem_cons.1 h with rfl | h
    · exact .inl rfl
    · rcases List.mem_append.1 h with h | h
      · exact .inr (dec_dg k b h).1
      · exact ih h
theorem txsT_no {l : List Int} : (32 : UInt8) ∉ txsT l := by
  unfold txsT
  by_cases e : l = []
  · rw [if_pos e]; decide
  · rw [if_neg e]
    cases l with
    | nil => exact absurd rfl e
    | cons k t =>
      intro h
      rw [plusT] at h
      rcases List.mem_append.1 h with h | h
      · have := (dec_dg k 32 h).1; simp at this
      · rcases plusTail_mem h with h | h
        · cases h
        · simp at h
theorem cut_blT (p h m : Int) (l : List Int) : cutL 32 (blT p h m l) = [[98, 108, 111, 99, 107], dec p, dec h, dec m, txsT l] := by
  have e : blT p h m l = [98, 108, 111, 99, 107] ++ 32 :: (dec p ++ 32 :: (dec h ++ 32 :: (dec m ++ 32 :: txsT l))) := by simp [blT, blHd]
  rw [e, cutL_at (by decide), cutL_at (not_dec (by decide) p), cutL_at (not_dec (by decide) h), cutL_at (not_dec (by decide) m), cutL_one txsT_no]
theorem cut_plusTail (k : Int) (l : List Int) : cutL 43 (dec k ++ plusTail l) = dec k :: l.map dec := by
  induction l generalizing k with
  | nil => rw [plusTail, List.append_nil, cutL_one (not_dec (by decide) k)]; rfl
  | cons a t ih => rw [plusTail, cutL_at (not_dec (by decide) k), ih a]; rfl
theorem cut_plus {l : List Int} (h : l ≠ []) : cutL 43 (plusT l) = l.map dec := by
  cases l with
  | nil => exact absurd rfl h
  | cons k t => exact cut_plusTail k t
theorem plus_dash {l : List Int} (h : l ≠ []) : plusT l ≠ [45] := by
  cases l with
  | nil => exact absurd rfl h
  | cons k t =>
    intro e
    rw [plusT] at e
    cases e2 : dec k with
    | nil => exact digs_ne _ e2
    | cons b r =>
      rw [e2, List.cons_append] at e
      have h1 := (dec_dg k b (by rw [e2]; exact List.mem_cons_self ..)).1
      have h2 : b = 45 := (List.cons.inj e).1
      rw [h2] at h1
      simp at h1

/-- What the specification reads. -/
def txsP (s : List UInt8) : List Int × Bool := if s = [45] then ([], true) else ((cutL 43 s).map fun x => (numR x 2).1, (cutL 43 s).all fun x => (numR x 2).2)
def parB (t : List UInt8) : (Int × Int × Int × List Int) × Bool :=
  match cutL 32 t with
  | [w0, w1, w2, w3, w4] =>
    if w0 = [98, 108, 111, 99, 107] then
      (((numR w1 2).1, (numR w2 2).1, (numR w3 3).1, (txsP w4).1), (numR w1 2).2 && (numR w2 2).2 && (numR w3 3).2 && (txsP w4).2 && decide (blR (numR w1 2).1 (numR w2 2).1 (numR w3 3).1 (txsP w4).1 = 0))
    else ((0, 0, 0, []), false)
  | _ => ((0, 0, 0, []), false)
theorem txsP_sound {s : List UInt8} (h : (txsP s).2 = true) : txsT (txsP s).1 = s := by
  unfold txsP at h ⊢
  by_cases e : s = [45]
  · rw [if_pos e, e]; rfl
  · rw [if_neg e] at h ⊢
    have hne : ((cutL 43 s).map fun x => (numR x 2).1) ≠ [] := by
      intro e2
      exact cutL_ne 43 s (List.map_eq_nil_iff.1 e2)
    simp only at h ⊢
    unfold txsT
    rw [if_neg hne, ← join_plusT, List.map_map]
    have : (cutL 43 s).map (dec ∘ fun x => (numR x 2).1) = cutL 43 s := by
      conv => rhs; rw [← List.map_id (cutL 43 s)]
      apply List.map_congr_left
      intro x hx
      exact (numR_sound (List.all_eq_true.1 h x hx)).1
    rw [this, join_cut]
theorem txsP_dec {l : List Int} (h : ∀ k ∈ l, 1 ≤ k ∧ k ≤ 60) : txsP (txsT l) = (l, true) := by
  unfold txsP txsT
  by_cases e : l = []
  · rw [if_pos e, if_pos rfl, e]
  · rw [if_neg e, if_neg (plus_dash e), cut_plus e]
    have h1 : ∀ k ∈ l, numR (dec k) 2 = (k, true) := fun k hk => numR_dec (by have := h k hk; omega) (by have := h k hk; simp; omega) (by omega)
    refine Prod.ext ?_ ?_
    · rw [List.map_map]
      conv => rhs; rw [← List.map_id l]
      apply List.map_congr_left
      intro k hk
      show (numR (dec k) 2).1 = k
      rw [h1 k hk]
    · rw [List.all_map]
      refine List.all_eq_true.2 fun k hk => ?_
      show (numR (dec k) 2).2 = true
      rw [h1 k hk]
theorem parB_blT {p h m : Int} {l : List Int} (e : blR p h m l = 0) : parB (blT p h m l) = ((p, h, m, l), true) := by
  have hok := bl_ok e
  unfold parB
  rw [cut_blT]
  simp only [if_true]
  rw [numR_dec hok.p.1 (by have := hok.p; simp; omega) (by omega), numR_dec (by have := hok.h; omega) (by have := hok.h; simp; omega) (by omega), numR_dec (by have := hok.m; omega) (by have := hok.m; simp; omega) (by omega), txsP_dec hok.t]
  simp [e]
theorem parB_sound {t : List UInt8} (h : (parB t).2 = true) : blR (parB t).1.1 (parB t).1.2.1 (parB t).1.2.2.1 (parB t).1.2.2.2 = 0 ∧ blT (parB t).1.1 (parB t).1.2.1 (parB t).1.2.2.1 (parB t).1.2.2.2 = t := by
  have hj := join_cut 32 t
  unfold parB at h ⊢
  split at h
  · rename_i w0 w1 w2 w3 w4 hw
    rw [hw] at hj
    by_cases h0 : w0 = [98, 108, 111, 99, 107]
    · rw [if_pos h0] at h
      simp only [if_pos h0]
      simp only [Bool.and_eq_true, decide_eq_true_eq] at h
      obtain ⟨⟨⟨⟨h1, h2⟩, h3⟩, h4⟩, h5⟩ := h
      refine ⟨h5, ?_⟩
      rw [← join_block, (numR_sound h1).1, (numR_sound h2).1, (numR_sound h3).1, txsP_sound h4, ← h0]
      exact hj
    · rw [if_neg h0] at h; cases h
  · cases h
/-- What ParseBlock comes to. -/
def pbR (t : List UInt8) : Int × (Int × Int × Int × List Int) := if (parB t).2 = true then (0, (parB t).1) else (5, (0, 0, 0, []))

end Go.Proofs.YtlacmcedpphphaaDoor
