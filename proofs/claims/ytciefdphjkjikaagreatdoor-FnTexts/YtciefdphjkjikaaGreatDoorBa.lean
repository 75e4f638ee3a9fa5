/- A transaction written and read back: no program in it. -/
import Derived.Test.YtciefdphjkjikaaGreatDoorAe
import Derived.Test.YtciefdphjkjikaaGreatDoorJn4
import Derived.Test.YtciefdphjkjikaaGreatDoorTtY
import Derived.Lib.ParseIntBTie
namespace Go.Proofs.YtciefdphjkjikaaGreatDoor
open Go.RowKit Go.Shelf Go.Maps Go.WideMaps

/-- A transaction's data. -/
structure TxV where
  k : Int
  f : Int
  rs : List (Int × Int)
  os : List Ou

theorem cut_flat {c : UInt8} : ∀ {t : List (List UInt8)} {a : List UInt8}, c ∉ a → (∀ x ∈ t, c ∉ x) → cutL c (a ++ t.flatMap fun x => [c] ++ x) = a :: t
  | [], a, ha, _ => by simpa using cutL_one ha
  | b :: t, a, ha, h => by
    have e : a ++ (b :: t).flatMap (fun x => [c] ++ x) = a ++ c :: (b ++ t.flatMap fun x => [c] ++ x) := by simp
    rw [e, cutL_at ha, cut_flat (h b (by simp)) (fun x hx => h x (by simp [hx]))]
theorem cut_joined {c : UInt8} {ls : List (List UInt8)} (hne : ls ≠ []) (h : ∀ x ∈ ls, c ∉ x) : cutL c (Lib.join ls [c]) = ls := by
  cases ls with
  | nil => exact absurd rfl hne
  | cons a t => rw [join_flat]; exact cut_flat (h a (by simp)) (fun x hx => h x (by simp [hx]))

/-- Each read, or none. -/
def mapO {α β : Type} (g : α → Option β) : List α → Option (List β)
  | [] => some []
  | a :: l => match g a, mapO g l with
    | some b, some r => some (b :: r)
    | _, _ => none
theorem mapO_some {α β : Type} {g : α → Option β} : ∀ {l : List α} {r : List β}, l.map g = r.map some → mapO g l = some r
  | [], [], _ => rfl
  | [], _ :: _, h => by simp at h
  | _ :: _, [], h => by simp at h
  | a :: l, b :: r, h => by
    simp only [List.map_cons, List.cons.injEq] at h
    simp only [mapO, h.1, mapO_some h.2]
theorem mapO_none {α β : Type} {g : α → Option β} : ∀ {l : List α} {a : α}, a ∈ l → g a = none → mapO g l = none
  | [], _, h, _ => by cases h
  | b :: l, a, h, e => by
    rcases List.mem_cons.1 h with rfl | h
    · simp only [mapO, e]
    · rw [mapO, mapO_none h e]
      cases g b <;> rfl

def swq (c : UInt8) : UInt8 := if c = 95 then 32 else c
theorem swq_swp {l : List UInt8} (h : (95 : UInt8) ∉ l) : (l.map swp).map swq = l := by
  rw [List.map_map]
  conv => rhs; rw [← List.map_id l]
  refine List.map_congr_left fun b hb => ?_
  show swq (swp b) = b
  unfold swp swq
  by_cases e : b = 32
  · rw [if_pos e, if_pos rfl, e]
  · rw [if_neg e, if_neg (fun e2 => h (by rw [← e2]; exact hb))]

/-! ### What the specification reads -/
def sref (p : List UInt8) : Option (Int × Int) :=
  match cutL 58 p with
  | [a, b] => if (numR a 2).2 = true ∧ (numR b 1).2 = true then some ((numR a 2).1, (numR b 1).1) else none
  | _ => none
def sout (p : List UInt8) : Option Ou :=
  match cutL 61 p with
  | [a, b] => if (numR a 7).2 = true ∧ (parU (b.map swq)).2 = true then some ⟨(numR a 7).1, (parU (b.map swq)).1.1, (parU (b.map swq)).1.2.1, (parU (b.map swq)).1.2.2⟩ else none
  | _ => none
def srest (k f : Int) : List (List UInt8) → Option TxV
  | i :: o :: r => match mapO sref (cutL 43 i), mapO sout (o :: r) with
    | some rs, some os => some ⟨k, f, rs, os⟩
    | _, _ => none
  | _ => none
def smem (k : Int) : List (List UInt8) → Option TxV
  | [] => none
  | m :: r => if (numR m 3).2 = true then srest k (numR m 3).1 r else none
def sread (t : List UInt8) : Option TxV :=
  match cutL 32 t with
  | [] => none
  | w0 :: r => if w0 = [106, 111, 105, 110] then smem 1 r else if w0 = [108, 101, 97, 118, 101] then smem 2 r else if w0 = [112, 97, 121] then srest 0 0 r else none
/-- A reading that is right and tells just that text. -/
def TxV.fits (x : TxV) (t : List UInt8) : Prop := txR x.k x.f x.rs x.os = 0 ∧ txT x.k x.f x.rs x.os = t ∧ t.length ≤ 300
instance (x : TxV) (t : List UInt8) : Decidable (x.fits t) := by unfold TxV.fits; infer_instance
def kept (o : Option TxV) (t : List UInt8) : Option TxV := match o with
  | some x => if x.fits t then some x else none
  | none => none
theorem kept_some {o : Option TxV} {t : List UInt8} {x : TxV} (h : kept o t = some x) : o = some x ∧ x.fits t := by
  unfold kept at h
  cases o with
  | none => cases h
  | some y =>
    by_cases e : y.fits t
    · simp only [if_pos e, Option.some.injEq] at h
      exact ⟨by rw [h], h ▸ e⟩
    · simp only [if_neg e] at h; cases h

/-! ### What the program reads -/
def rnum (s : List UInt8) : Option Int := if Lib.itoa (looseN s) = s then some (looseN s) else none
def rref (p : List UInt8) : Option (Int × Int) :=
  if (Lib.cut p [58]).2.2 = true then (match rnum (Lib.cut p [58]).1, rnum (Lib.cut p [58]).2.1 with
    | some a, some b => some (a, b)
    | _, _ => none) else none
def rout (p : List UInt8) : Option Ou :=
  if (Lib.cut p [61]).2.2 = true ∧ (prR ((Lib.cut p [61]).2.1.map swq)).1 = 0 then (match rnum (Lib.cut p [61]).1 with
    | some v => some ⟨v, (prR ((Lib.cut p [61]).2.1.map swq)).2.1, (prR ((Lib.cut p [61]).2.1.map swq)).2.2.1, (prR ((Lib.cut p [61]).2.1.map swq)).2.2.2⟩
    | none => none) else none
def rrest (k f : Int) : List (List UInt8) → Option TxV
  | i :: r => match mapO rref (cutL 43 i), mapO rout r with
    | some rs, some os => some ⟨k, f, rs, os⟩
    | _, _ => none
  | _ => none
def rmem (k : Int) : List (List UInt8) → Option TxV
  | [] => none
  | m :: r => match rnum m with
    | some f => rrest k f r
    | none => none
def rread (t : List UInt8) : Option TxV :=
  match cutL 32 t with
  | [] => none
  | w0 :: r => if w0 = [112, 97, 121] then rrest 0 0 r else if w0 = [106, 111, 105, 110] then rmem 1 r else if w0 = [108, 101, 97, 118, 101] then rmem 2 r else none

/-! ### Round trips -/
theorem dec_no {k : Int} {c : UInt8} (h : c.toNat < 48 ∨ 57 < c.toNat) : c ∉ dec k := fun hm => by
  have := dec_dg k c hm
  omega
theorem tailT_in {l : List Int} {b : UInt8} (h : b ∈ tailT l) : b = 44 ∨ (48 ≤ b.toNat ∧ b.toNat ≤ 57) := by
  induction l with
  | nil => cases h
  | cons k t ih =>
    rw [tailT] at h
    rcases List.mem_cons.1 h with rfl | h
    · exact .inl rfl
    · rcases List.mem_append.1 h with h | h
      · exact .inr (dec_dg k b h)
      · exact ih h
theorem keysT_in {l : List Int} {b : UInt8} (h : b ∈ keysT l) : b = 44 ∨ (48 ≤ b.toNat ∧ b.toNat ≤ 57) := by
  cases l with
  | nil => cases h
  | cons k t =>
    rw [keysT] at h
    rcases List.mem_append.1 h with h | h
    · exact .inr (dec_dg k b h)
    · exact tailT_in h
theorem rtx_in {l : List Int} {x y : Int} {b : UInt8} (h : b ∈ rtxR l x y) : b ≠ 61 ∧ b ≠ 95 := by
  unfold rtxR aftT at h
  have hd : ∀ {c : UInt8}, (48 ≤ c.toNat ∧ c.toNat ≤ 57) → c ≠ 61 ∧ c ≠ 95 := fun {c} hc => ⟨fun e => by rw [e] at hc; simp at hc, fun e => by rw [e] at hc; simp at hc⟩
  rcases List.mem_append.1 h with h | h
  · rcases List.mem_append.1 h with h | h
    · rcases List.mem_append.1 h with h | h
      · exact hd (dec_dg _ _ h)
      · simp at h; rcases h with rfl | rfl | rfl | rfl <;> decide
    · rcases keysT_in h with rfl | h
      · decide
      · exact hd h
  · by_cases hy : y = 0
    · rw [if_pos hy] at h; cases h
    · rw [if_neg hy] at h
      rcases List.mem_append.1 h with h | h
      · simp at h; rcases h with rfl | rfl | rfl | rfl | rfl | rfl | rfl <;> decide
      · exact hd (dec_dg _ _ h)
theorem swp_in {l : List Int} {x y : Int} {b : UInt8} (h : b ∈ (rtxR l x y).map swp) : b ≠ 61 ∧ b ≠ 32 := by
  obtain ⟨c, hc, rfl⟩ := List.mem_map.1 h
  have h1 := rtx_in hc
  unfold swp
  by_cases e : c = 32
  · rw [if_pos e]; decide
  · rw [if_neg e]; exact ⟨h1.1, e⟩
theorem refT_no {r : Int × Int} {c : UInt8} (h : c.toNat < 48 ∨ 58 < c.toNat) : c ∉ refT r := fun hm => by
  unfold refT at hm
  rcases List.mem_append.1 hm with hm | hm
  · have := dec_dg _ _ hm; omega
  · rcases List.mem_cons.1 hm with rfl | hm
    · simp at h
    · have := dec_dg _ _ hm; omega
theorem outW_no (o : Ou) : (32 : UInt8) ∉ outW o := fun hm => by
  unfold outW at hm
  rcases List.mem_append.1 hm with hm | hm
  · have := dec_dg _ _ hm; simp at this
  · rcases List.mem_cons.1 hm with hm | hm
    · cases hm
    · exact (swp_in hm).2 rfl
theorem refsW_no (rs : List (Int × Int)) : (32 : UInt8) ∉ refsW rs := fun hm => by
  unfold refsW at hm
  cases rs with
  | nil => simp [Lib.join, List.intercalate] at hm
  | cons r t =>
    rw [List.map_cons, join_flat] at hm
    rcases List.mem_append.1 hm with hm | hm
    · exact refT_no (by decide) hm
    · obtain ⟨x, hx, h⟩ := List.mem_flatMap.1 hm
      obtain ⟨q, _, rfl⟩ := List.mem_map.1 hx
      rcases List.mem_append.1 h with h | h
      · simp at h
      · exact refT_no (by decide) h
theorem cut_refs {rs : List (Int × Int)} (h : rs ≠ []) : cutL 43 (refsW rs) = rs.map refT :=
  cut_joined (by simpa using h) (fun x hx => by
    obtain ⟨q, _, rfl⟩ := List.mem_map.1 hx
    exact refT_no (by decide))
theorem words_no (k f : Int) (rs : List (Int × Int)) (os : List Ou) : ∀ x ∈ wordsT k f rs os, (32 : UInt8) ∉ x := by
  intro x hx
  unfold wordsT kindW at hx
  rcases List.mem_append.1 hx with hx | hx
  · by_cases h0 : k = 0
    · rw [if_pos h0] at hx; simp at hx; rw [hx]; decide
    · rw [if_neg h0] at hx
      by_cases h1 : k = 1
      · rw [if_pos h1] at hx
        simp at hx
        rcases hx with rfl | rfl
        · decide
        · exact dec_no (by decide)
      · rw [if_neg h1] at hx
        simp at hx
        rcases hx with rfl | rfl
        · decide
        · exact dec_no (by decide)
  · rcases List.mem_cons.1 hx with rfl | hx
    · exact refsW_no rs
    · obtain ⟨q, _, rfl⟩ := List.mem_map.1 hx
      exact outW_no q
theorem cut_txT {k f : Int} {rs : List (Int × Int)} {os : List Ou} (hk : k = 0 ∨ k = 1 ∨ k = 2) (hr : rs ≠ []) : cutL 32 (txT k f rs os) = wordsT k f rs os := by
  rw [← join_words hk hr]
  exact cut_joined (by unfold wordsT kindW; by_cases h : k = 0 <;> by_cases h1 : k = 1 <;> simp [h, h1]) (words_no k f rs os)

theorem rnum_dec {v : Int} (h0 : 0 ≤ v) (h1 : v ≤ 1000000) : rnum (dec v) = some v := by
  unfold rnum
  rw [looseN_dec h0 (by omega)]
  obtain ⟨n, rfl⟩ := Int.eq_ofNat_of_zero_le h0
  rw [Lib.itoa_nonneg]
  exact if_pos rfl
theorem cut_ref (r : Int × Int) : cutL 58 (refT r) = [dec r.1, dec r.2] := by
  unfold refT
  rw [cutL_at (dec_no (by decide)), cutL_one (dec_no (by decide))]
theorem sref_dec {r : Int × Int} (h1 : 0 ≤ r.1 ∧ r.1 ≤ 60) (h2 : 0 ≤ r.2 ∧ r.2 ≤ 3) : sref (refT r) = some r := by
  unfold sref
  rw [cut_ref]
  simp only [numR_dec (v := r.1) (n := 2) h1.1 (by simp; omega) (by omega), numR_dec (v := r.2) (n := 1) h2.1 (by simp; omega) (by omega)]
  simp
theorem lcut_hit {c : UInt8} {p r : List UInt8} (h : c ∉ p) : Lib.cut (p ++ c :: r) [c] = (p, r, true) := by
  have := cut_hit (tl := []) (r := r) h
  simpa using this
theorem rref_dec {r : Int × Int} (h1 : 0 ≤ r.1 ∧ r.1 ≤ 60) (h2 : 0 ≤ r.2 ∧ r.2 ≤ 3) : rref (refT r) = some r := by
  unfold rref refT
  rw [lcut_hit (dec_no (by decide))]
  simp only [if_true, rnum_dec (v := r.1) h1.1 (by omega), rnum_dec (v := r.2) h2.1 (by omega)]
theorem cut_out (o : Ou) : cutL 61 (outW o) = [dec o.v, (rtxR o.l o.x o.y).map swp] := by
  unfold outW
  rw [cutL_at (dec_no (by decide)), cutL_one (fun h => (swp_in h).1 rfl)]
theorem sout_dec {o : Ou} (hv : 0 ≤ o.v ∧ o.v ≤ 1000000) (hr : ruleR o.l o.x o.y = 0) : sout (outW o) = some o := by
  unfold sout
  rw [cut_out]
  simp only [swq_swp (fun h => (rtx_in h).2 rfl), parU_rtx hr, numR_dec (v := o.v) (n := 7) hv.1 (by simp; omega) (by omega)]
  simp
theorem rout_dec {o : Ou} (hv : 0 ≤ o.v ∧ o.v ≤ 1000000) (hr : ruleR o.l o.x o.y = 0) : rout (outW o) = some o := by
  unfold rout outW
  rw [lcut_hit (dec_no (by decide))]
  have hp : prR (rtxR o.l o.x o.y) = (0, o.l, o.x, o.y) := by
    unfold prR
    rw [parU_rtx hr]
    simp
  simp only [swq_swp (fun h => (rtx_in h).2 rfl), hp, rnum_dec (v := o.v) hv.1 hv.2]
  simp

/-- What a right transaction is. -/
theorem tx_parts {x : TxV} (h : txR x.k x.f x.rs x.os = 0) : (x.k = 0 ∧ x.f = 0 ∨ (x.k = 1 ∨ x.k = 2)) ∧ (0 ≤ x.f ∧ x.f ≤ 999) ∧ x.rs ≠ [] ∧ x.os ≠ [] ∧ (∀ r ∈ x.rs, (0 ≤ r.1 ∧ r.1 ≤ 60) ∧ 0 ≤ r.2 ∧ r.2 ≤ 3) ∧ (∀ o ∈ x.os, (0 ≤ o.v ∧ o.v ≤ 1000000) ∧ ruleR o.l o.x o.y = 0) := by
  have hok := txOk_of h.symm
  have h0 := h
  unfold txR at h
  by_cases h1 : inB x.k 0 2 = false ∨ ¬ (x.k = 0 ↔ x.f = 0)
  · rw [if_pos h1] at h; cases h
  rw [if_neg h1] at h
  by_cases h2 : x.k ≠ 0 ∧ inB x.f 1 999 = false
  · rw [if_pos h2] at h; cases h
  rw [if_neg h2] at h
  by_cases h3 : inB x.rs.length 1 4 = false ∨ inB x.os.length 1 4 = false
  · rw [if_pos h3] at h; cases h
  rw [if_neg h3] at h
  have h4 : inB x.rs.length 1 4 = true := by
    cases e : inB x.rs.length 1 4
    · exact absurd (.inl e) h3
    · rfl
  have h4b : inB x.os.length 1 4 = true := by
    cases e : inB x.os.length 1 4
    · exact absurd (.inr e) h3
    · rfl
  by_cases h5 : refsR [] x.rs ≠ 0
  · rw [if_pos h5] at h; exact absurd h h5
  have hkf : x.k = 0 ↔ x.f = 0 := Classical.not_not.1 fun e => h1 (.inr e)
  have hn := inB_true.1 h4
  have hm := inB_true.1 h4b
  have hrs := refsR_zero [] (Classical.not_not.1 h5)
  refine ⟨?_, hok.f, fun e => by rw [e] at hn; simp at hn, fun e => by rw [e] at hm; simp at hm, fun r hr => ?_, fun o ho => ?_⟩
  · rcases hok.k with q | q | q
    · exact .inl ⟨q, hkf.1 q⟩
    · exact .inr (.inl q)
    · exact .inr (.inr q)
  · have := hrs r hr
    unfold refB at this
    have a := (Bool.and_eq_true _ _).mp this
    have a1 := inB_true.1 a.1
    have a2 := inB_true.1 a.2
    omega
  · obtain ⟨j, hj, e⟩ := List.mem_iff_getElem.1 ho
    have eg : x.os.getD j O0 = o := by rw [List.getD, List.getElem?_eq_getElem hj, e]; rfl
    have ho1 := hok.o j hj
    have hr := (tx_more h0.symm).2 j hj
    rw [eg] at ho1 hr
    exact ⟨ho1.v, hr⟩

theorem sread_txT {x : TxV} (h : txR x.k x.f x.rs x.os = 0) : sread (txT x.k x.f x.rs x.os) = some x := by
  obtain ⟨hk, hf, hr, ho, hra, hoa⟩ := tx_parts h
  have hrs : mapO sref (cutL 43 (refsW x.rs)) = some x.rs := mapO_some (by
    rw [cut_refs hr, List.map_map]
    exact List.map_congr_left fun r hm => sref_dec (hra r hm).1 (hra r hm).2)
  have hos : mapO sout (x.os.map outW) = some x.os := mapO_some (by
    rw [List.map_map]
    exact List.map_congr_left fun o hm => sout_dec (hoa o hm).1 (hoa o hm).2)
  have hrest : ∀ k f, srest k f (refsW x.rs :: x.os.map outW) = some ⟨k, f, x.rs, x.os⟩ := fun k f => by
    obtain ⟨o, r, e⟩ := List.exists_cons_of_ne_nil ho
    rw [e, List.map_cons] at hos ⊢
    simp only [srest, hrs, hos]
  unfold sread
  rw [cut_txT (by rcases hk with h | h | h <;> simp [h]) hr]
  unfold wordsT kindW
  have hn := numR_dec (v := x.f) (n := 3) hf.1 (by simp; omega) (by omega)
  obtain ⟨k, f, rs, os⟩ := x
  simp only at *
  rcases hk with ⟨rfl, rfl⟩ | rfl | rfl
  · simp [hrest]
  · simp [smem, hn, hrest]
  · simp [smem, hn, hrest]
theorem rread_txT {x : TxV} (h : txR x.k x.f x.rs x.os = 0) : rread (txT x.k x.f x.rs x.os) = some x := by
  obtain ⟨hk, hf, hr, ho, hra, hoa⟩ := tx_parts h
  have hrs : mapO rref (cutL 43 (refsW x.rs)) = some x.rs := mapO_some (by
    rw [cut_refs hr, List.map_map]
    exact List.map_congr_left fun r hm => rref_dec (hra r hm).1 (hra r hm).2)
  have hos : mapO rout (x.os.map outW) = some x.os := mapO_some (by
    rw [List.map_map]
    exact List.map_congr_left fun o hm => rout_dec (hoa o hm).1 (hoa o hm).2)
  have hrest : ∀ k f, rrest k f (refsW x.rs :: x.os.map outW) = some ⟨k, f, x.rs, x.os⟩ := fun k f => by
    simp only [rrest, hrs, hos]
  unfold rread
  rw [cut_txT (by rcases hk with h | h | h <;> simp [h]) hr]
  unfold wordsT kindW
  have hn := rnum_dec (v := x.f) hf.1 (by omega)
  obtain ⟨k, f, rs, os⟩ := x
  simp only at *
  rcases hk with ⟨rfl, rfl⟩ | rfl | rfl
  · simp [hrest]
  · simp [rmem, hn, hrest]
  · simp [rmem, hn, hrest]
/-- Both read the same. -/
theorem reads_same (t : List UInt8) : kept (rread t) t = kept (sread t) t := by
  cases hs : kept (sread t) t with
  | some x =>
    obtain ⟨_, hx⟩ := kept_some hs
    have e := rread_txT hx.1
    rw [hx.2.1] at e
    rw [e]
    exact if_pos hx
  | none =>
    cases hr : kept (rread t) t with
    | none => rfl
    | some x =>
      obtain ⟨_, hx⟩ := kept_some hr
      have e := sread_txT hx.1
      rw [hx.2.1] at e
      rw [e] at hs
      simp only [kept, if_pos hx] at hs
      cases hs
/-- What ParseTx answers. -/
def parT (t : List UInt8) : Option TxV := kept (sread t) t

end Go.Proofs.YtciefdphjkjikaaGreatDoor
