/- A rule is read: what it comes to, without a world. -/
import Derived.Test.YtciefdphjkjikaaGreatDoorGc
import Derived.Test.YtciefdphjkjikaaGreatDoorJn4
import Derived.Lib.IndexMore
import Derived.Lib.ParseIntBTie
namespace Go.Proofs.YtciefdphjkjikaaGreatDoor
open Go.RowKit Go.Shelf Go.Maps Go.WideMaps

theorem cut_tailT (k : Int) (l : List Int) : cutL 44 (dec k ++ tailT l) = dec k :: l.map dec := by
  induction l generalizing k with
  | nil => rw [tailT, List.append_nil, cutL_one (not_dec (by decide) k)]; rfl
  | cons a t ih => rw [tailT, cutL_at (not_dec (by decide) k), ih a]; rfl
theorem cut_keysT {l : List Int} (h : l ≠ []) : cutL 44 (keysT l) = l.map dec := by
  cases l with
  | nil => exact absurd rfl h
  | cons k t => exact cut_tailT k t
theorem tailT_mem {l : List Int} {b : UInt8} (h : b ∈ tailT l) : b = 44 ∨ 48 ≤ b.toNat := by
  induction l with
  | nil => cases h
  | cons k t ih =>
    rw [tailT] at h
    rcases List.mem_cons.1 h with rfl | h
    · exact .inl rfl
    · rcases List.mem_append.1 h with h | h
      · exact .inr (dec_dg k b h).1
      · exact ih h
theorem keysT_no {l : List Int} : (32 : UInt8) ∉ keysT l := by
  cases l with
  | nil => simp [keysT]
  | cons k t =>
    intro h
    rw [keysT] at h
    rcases List.mem_append.1 h with h | h
    · have := (dec_dg k 32 h).1; simp at this
    · rcases tailT_mem h with h | h
      · cases h
      · simp at h
theorem join_keysL (l : List Int) : Lib.join (l.map dec) [44] = keysT l := by
  by_cases h : l = []
  · subst h; rfl
  · rw [← cut_keysT h, join_cut]

/-- What the specification reads of keys, and of a rule. -/
def kysP (s : List UInt8) : List Int × Bool := ((cutL 44 s).map fun x => (numR x 3).1, (cutL 44 s).all fun x => (numR x 3).2)
def parU (t : List UInt8) : (List Int × Int × Int) × Bool :=
  match cutL 32 t with
  | [a, b, c] =>
    if b = [111, 102] then (((kysP c).1, (numR a 1).1, 0), (numR a 1).2 && (kysP c).2 && decide (ruleR (kysP c).1 (numR a 1).1 0 = 0)) else (([], 0, 0), false)
  | [a, b, c, d, e] =>
    if b = [111, 102] then (((kysP c).1, (numR a 1).1, (numR e 3).1), (numR a 1).2 && (kysP c).2 && ((numR e 3).2 && decide (d = [97, 102, 116, 101, 114]) && decide (0 < (numR e 3).1)) && decide (ruleR (kysP c).1 (numR a 1).1 (numR e 3).1 = 0)) else (([], 0, 0), false)
  | _ => (([], 0, 0), false)
theorem kysP_sound {s : List UInt8} (h : (kysP s).2 = true) : keysT (kysP s).1 = s := by
  unfold kysP at h ⊢
  simp only at h ⊢
  rw [← join_keysL, List.map_map]
  have : (cutL 44 s).map (dec ∘ fun x => (numR x 3).1) = cutL 44 s := by
    conv => rhs; rw [← List.map_id (cutL 44 s)]
    apply List.map_congr_left
    intro x hx
    exact (numR_sound (List.all_eq_true.1 h x hx)).1
  rw [this, join_cut]
theorem kysP_dec {l : List Int} (hne : l ≠ []) (h : ∀ k ∈ l, 1 ≤ k ∧ k ≤ 999) : kysP (keysT l) = (l, true) := by
  unfold kysP
  rw [cut_keysT hne]
  have h1 : ∀ k ∈ l, numR (dec k) 3 = (k, true) := fun k hk => numR_dec (by have := h k hk; omega) (by have := h k hk; simp; omega) (by omega)
  refine Prod.ext ?_ ?_
  · rw [List.map_map]
    conv => rhs; rw [← List.map_id l]
    apply List.map_congr_left
    intro k hk
    show (numR (dec k) 3).1 = k
    rw [h1 k hk]
  · rw [List.all_map]
    refine List.all_eq_true.2 fun k hk => ?_
    show (numR (dec k) 3).2 = true
    rw [h1 k hk]
theorem cut_rtx0 (l : List Int) (x : Int) : cutL 32 (rtxR l x 0) = [dec x, [111, 102], keysT l] := by
  have e : rtxR l x 0 = dec x ++ 32 :: ([111, 102] ++ 32 :: keysT l) := by simp [rtxR, aftT]
  rw [e, cutL_at (not_dec (by decide) x), cutL_at (by decide), cutL_one keysT_no]
theorem cut_rtxY (l : List Int) (x : Int) {y : Int} (hy : y ≠ 0) : cutL 32 (rtxR l x y) = [dec x, [111, 102], keysT l, [97, 102, 116, 101, 114], dec y] := by
  have e : rtxR l x y = dec x ++ 32 :: ([111, 102] ++ 32 :: (keysT l ++ 32 :: ([97, 102, 116, 101, 114] ++ 32 :: dec y))) := by simp [rtxR, aftT, hy]
  rw [e, cutL_at (not_dec (by decide) x), cutL_at (by decide), cutL_at keysT_no, cutL_at (by decide), cutL_one (not_dec (by decide) y)]
/-- A right rule is read back from its text. -/
theorem parU_rtx {l : List Int} {x y : Int} (h : ruleR l x y = 0) : parU (rtxR l x y) = ((l, x, y), true) := by
  obtain ⟨⟨h1, h2⟩, ⟨h3, h4⟩, ⟨h5, h6⟩, h7⟩ := ruleR_zero rfl h
  have hne : l ≠ [] := fun e => by rw [e] at h1; simp at h1
  have hk : ∀ k ∈ l, 1 ≤ k ∧ k ≤ 999 := h7
  unfold parU
  by_cases hy : y = 0
  · subst hy
    rw [cut_rtx0]
    simp only [if_true]
    rw [numR_dec (by omega) (by simp; omega) (by omega), kysP_dec hne hk]
    simp [h]
  · rw [cut_rtxY l x hy]
    simp only [if_true]
    rw [numR_dec (by omega) (by simp; omega) (by omega), kysP_dec hne hk, numR_dec (v := y) (by omega) (by simp; omega) (by omega)]
    simp [h]
    omega
/-- What is read is right, and the text is just that of it. -/
theorem parU_sound {t : List UInt8} (h : (parU t).2 = true) : ruleR (parU t).1.1 (parU t).1.2.1 (parU t).1.2.2 = 0 ∧ rtxR (parU t).1.1 (parU t).1.2.1 (parU t).1.2.2 = t := by
  have hj := join_cut 32 t
  unfold parU at h ⊢
  split at h
  · rename_i a b c hw
    rw [hw] at hj
    by_cases h0 : b = [111, 102]
    · rw [if_pos h0] at h
      simp only [if_pos h0]
      simp only [Bool.and_eq_true, decide_eq_true_eq] at h
      obtain ⟨⟨g1, g2⟩, g3⟩ := h
      refine ⟨g3, ?_⟩
      rw [← hj, h0]
      unfold rtxR aftT
      rw [(numR_sound g1).1, kysP_sound g2, if_pos rfl]
      simp [Lib.join, List.intercalate, List.intersperse]
    · rw [if_neg h0] at h; cases h
  · rename_i a b c d e hw
    rw [hw] at hj
    by_cases h0 : b = [111, 102]
    · rw [if_pos h0] at h
      simp only [if_pos h0]
      simp only [Bool.and_eq_true, decide_eq_true_eq] at h
      obtain ⟨⟨⟨g1, g2⟩, ⟨g4, g5⟩, g6⟩, g3⟩ := h
      refine ⟨g3, ?_⟩
      rw [← hj, h0, g5]
      unfold rtxR aftT
      rw [(numR_sound g1).1, kysP_sound g2, if_neg (by omega), (numR_sound g4).1]
      simp [Lib.join, List.intercalate, List.intersperse]
    · rw [if_neg h0] at h; cases h
  · cases h
/-- What ParseRule comes to. -/
def prR (t : List UInt8) : Int × (List Int × Int × Int) := if (parU t).2 = true then (0, (parU t).1) else (5, ([], 0, 0))

/-- What the program reads first, loosely. -/
def looseN (s : List UInt8) : Int := match Lib.parseIntB 64 s with
  | .ok v => v
  | _ => 0
def looseR (t : List UInt8) : List Int × Int × Int :=
  (((cutL 44 (Lib.cut (Lib.cut t [32, 111, 102, 32]).2.1 [32, 97, 102, 116, 101, 114, 32]).1).map looseN), looseN (Lib.cut t [32, 111, 102, 32]).1, looseN (Lib.cut (Lib.cut t [32, 111, 102, 32]).2.1 [32, 97, 102, 116, 101, 114, 32]).2.1)

theorem index_at {c : UInt8} {tl r : List UInt8} : ∀ {p : List UInt8}, c ∉ p → Lib.index (p ++ (c :: tl) ++ r) (c :: tl) = p.length
  | [], _ => by
    show Lib.index (c :: (tl ++ r)) (c :: tl) = 0
    unfold Lib.index
    rw [if_pos]
    simp [List.isPrefixOf]
  | b :: t, h => by
    have h1 : ¬ c = b := fun e => h (by rw [e]; exact List.mem_cons_self ..)
    have ih := index_at (tl := tl) (r := r) (p := t) (fun e => h (List.mem_cons_of_mem _ e))
    show Lib.index (b :: (t ++ (c :: tl) ++ r)) (c :: tl) = _
    unfold Lib.index
    rw [if_neg (by simp [List.isPrefixOf, h1]), ih, if_neg (by simp <;> omega)]
    simp
theorem index_no {c : UInt8} {tl : List UInt8} : ∀ {p : List UInt8}, c ∉ p → Lib.index p (c :: tl) = -1
  | [], _ => rfl
  | b :: t, h => by
    have h1 : ¬ c = b := fun e => h (by rw [e]; exact List.mem_cons_self ..)
    have ih := index_no (tl := tl) (p := t) (fun e => h (List.mem_cons_of_mem _ e))
    unfold Lib.index
    rw [if_neg (by simp [List.isPrefixOf, h1]), ih, if_pos (by decide)]
theorem cut_hit {c : UInt8} {tl p r : List UInt8} (h : c ∉ p) : Lib.cut (p ++ (c :: tl) ++ r) (c :: tl) = (p, r, true) := by
  unfold Lib.cut
  rw [index_at h, if_pos (by omega)]
  simp only [Int.toNat_natCast]
  rw [List.append_assoc, List.take_left]
  refine Prod.ext rfl (Prod.ext ?_ rfl)
  show List.drop (p.length + (c :: tl).length) (p ++ ((c :: tl) ++ r)) = r
  rw [← List.append_assoc, ← List.length_append, List.drop_left]
theorem cut_miss {c : UInt8} {tl p : List UInt8} (h : c ∉ p) : Lib.cut p (c :: tl) = (p, [], false) := by
  unfold Lib.cut
  rw [index_no h, if_neg (by decide)]
/-- Digits are read, whatever is ahead of them, as long as the number is not great. -/
theorem fold_ge : ∀ (ds : List UInt8) (acc : Nat), acc ≤ ds.foldl (fun v b => v * 10 + (b.toNat - 48)) acc
  | [], acc => Nat.le_refl _
  | b :: t, acc => by
    have := fold_ge t (acc * 10 + (b.toNat - 48))
    show acc ≤ t.foldl _ (acc * 10 + (b.toNat - 48))
    omega
theorem pu_digs : ∀ (ds : List UInt8) (acc : Nat), ds.all isDg = true → ds.foldl (fun v b => v * 10 + (b.toNat - 48)) acc < 1000000000000000000 → Lib.parseUintM (2 ^ 64 - 1) acc ds = .ok (ds.foldl (fun v b => v * 10 + (b.toNat - 48)) acc)
  | [], acc, _, _ => rfl
  | b :: t, acc, h, hl => by
    rw [List.all_cons, Bool.and_eq_true] at h
    have hb := dg_le h.1
    have h1 := fold_ge t (acc * 10 + (b.toNat - 48))
    have h2 : t.foldl (fun v b => v * 10 + (b.toNat - 48)) (acc * 10 + (b.toNat - 48)) < 1000000000000000000 := hl
    unfold Lib.parseUintM
    rw [if_pos hb, if_neg (by omega), if_neg (by omega)]
    exact pu_digs t _ h.2 h2
theorem looseN_dec {v : Int} (h0 : 0 ≤ v) (h1 : v < 1000000000000000000) : looseN (dec v) = v := by
  have ha := digs_all v.toNat
  have hv := digs_val v.toNat
  unfold looseN dec
  cases e : Lib.decDigits v.toNat with
  | nil => exact absurd e (digs_ne _)
  | cons c r =>
    rw [e] at ha hv
    have hc := dg_le (List.all_eq_true.1 ha c (List.mem_cons_self ..))
    unfold valD at hv
    have hp := pu_digs (c :: r) 0 ha (by rw [hv]; omega)
    rw [hv] at hp
    have h3 : ¬ (c.toNat = 43 ∨ c.toNat = 45) := by omega
    have h4 : ¬ c.toNat = 45 := by omega
    unfold Lib.parseIntB
    simp only [if_neg h3]
    unfold Lib.parseUintB
    rw [if_neg (by simp), hp]
    simp only
    rw [if_neg (by simp; omega), if_neg (by simp [h4])]
    simp [h4]
    omega
theorem looseR_rtx {l : List Int} {x y : Int} (h : ruleR l x y = 0) : looseR (rtxR l x y) = (l, x, y) := by
  obtain ⟨⟨h1, h2⟩, ⟨h3, h4⟩, ⟨h5, h6⟩, h7⟩ := ruleR_zero rfl h
  have hne : l ≠ [] := fun e => by rw [e] at h1; simp at h1
  have hk : ∀ k ∈ l, 1 ≤ k ∧ k ≤ 999 := h7
  have hm : (l.map dec).map looseN = l := by
    rw [List.map_map]
    conv => rhs; rw [← List.map_id l]
    apply List.map_congr_left
    intro k hkk
    have := hk k hkk
    exact looseN_dec (by omega) (by omega)
  have e : rtxR l x y = dec x ++ (32 :: [111, 102, 32]) ++ (keysT l ++ aftT y) := by simp [rtxR]
  unfold looseR
  rw [e, cut_hit (not_dec (by decide) x)]
  simp only
  by_cases hy : y = 0
  · subst hy
    have e2 : aftT 0 = [] := rfl
    rw [e2, List.append_nil, cut_miss keysT_no]
    simp only
    rw [cut_keysT hne, hm, looseN_dec (by omega) (by omega)]
    rfl
  · have e2 : keysT l ++ aftT y = keysT l ++ (32 :: [97, 102, 116, 101, 114, 32]) ++ dec y := by unfold aftT; rw [if_neg hy]; simp
    rw [e2, cut_hit keysT_no]
    simp only
    rw [cut_keysT hne, hm, looseN_dec (v := x) (by omega) (by omega), looseN_dec (v := y) (by omega) (by omega)]
/-- The program reads what the specification does. -/
theorem loose_same (t : List UInt8) : (if ruleR (looseR t).1 (looseR t).2.1 (looseR t).2.2 = 0 ∧ rtxR (looseR t).1 (looseR t).2.1 (looseR t).2.2 = t then (0, looseR t) else (5, ([], 0, 0))) = prR t := by
  unfold prR
  cases hp : (parU t).2
  · rw [if_neg (show ¬ false = true by simp)]
    rw [if_neg]
    rintro ⟨h1, h2⟩
    have := parU_rtx h1
    rw [h2] at this
    rw [this] at hp
    cases hp
  · rw [if_pos rfl]
    obtain ⟨h1, h2⟩ := parU_sound hp
    have h3 := looseR_rtx h1
    rw [h2] at h3
    rw [if_pos (by rw [h3]; exact ⟨h1, h2⟩), h3]

end Go.Proofs.YtciefdphjkjikaaGreatDoor
