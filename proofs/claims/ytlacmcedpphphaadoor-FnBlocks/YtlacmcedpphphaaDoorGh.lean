/- What the machine reads of a block's text: no program in it. -/
import Derived.Test.YtlacmcedpphphaaDoorGf
namespace Go.Proofs.YtlacmcedpphphaaDoor
open Go.RowKit Go.Shelf Go.Maps Go.WideMaps

theorem span_digs {a r : List UInt8} (ha : a.all isDg = true) (hr : r = [] ∨ ∃ c q, r = c :: q ∧ ¬ isDg c = true) : (a ++ r).takeWhile isDg = a ∧ (a ++ r).dropWhile isDg = r := by
  induction a with
  | nil =>
    rcases hr with rfl | ⟨c, q, rfl, hc⟩
    · exact ⟨rfl, rfl⟩
    · rw [List.nil_append, List.takeWhile_cons_of_neg hc, List.dropWhile_cons_of_neg hc]
      exact ⟨rfl, rfl⟩
  | cons d t ih =>
    rw [List.all_cons, Bool.and_eq_true] at ha
    obtain ⟨h1, h2⟩ := ih ha.2
    rw [List.cons_append, List.takeWhile_cons_of_pos ha.1, List.dropWhile_cons_of_pos ha.1, h1, h2]
    exact ⟨rfl, rfl⟩
theorem rdF_num {f : Nat} {b : UInt8} {v : Int} {r : List UInt8} {ns : List Int} (hb : b = markC ns.length) (h0 : 0 ≤ v) (h1 : v ≤ 999) (hr : r = [] ∨ ∃ c q, r = c :: q ∧ ¬ isDg c = true) : rdF (f + 1) (b :: (dec v ++ r)) ns = rdF f r (ns ++ [v]) := by
  have hall : (dec v).all isDg = true := digs_all v.toNat
  obtain ⟨e1, e2⟩ := span_digs hall hr
  cases e : dec v with
  | nil => exact absurd e (digs_ne _)
  | cons d ds =>
    rw [e] at hall e1 e2
    rw [List.all_cons, Bool.and_eq_true] at hall
    have hd := dg_le hall.1
    rw [List.cons_append, rdF_dig hb (fun h => by
      have := (List.cons.inj h.2).1
      rw [this] at hd
      simp at hd) hall.1, ← List.cons_append]
    unfold rdD
    rw [e1, e2]
    have hv : valA 0 (d :: ds) = v.toNat := by rw [← e]; exact digs_val v.toNat
    rw [hv, lim_no (by omega), if_neg (by simp)]
    congr 2
    have : ((v.toNat : Nat) : Int) = v := Int.toNat_of_nonneg h0
    rw [this]
theorem no43 : ¬ isDg 43 = true := by decide
theorem no32 : ¬ isDg 32 = true := by decide
theorem tail_head (t : List Int) : plusTail t = [] ∨ ∃ c q, plusTail t = c :: q ∧ ¬ isDg c = true := by
  cases t with
  | nil => exact .inl rfl
  | cons k t => exact .inr ⟨43, dec k ++ plusTail t, rfl, no43⟩
theorem rdF_tail {t : List Int} : ∀ {f : Nat} {ns : List Int}, 4 ≤ ns.length → t.length < f → (∀ k ∈ t, 0 ≤ k ∧ k ≤ 999) → rdF f (plusTail t) ns = some (ns ++ t) := by
  induction t with
  | nil =>
    intro f ns hn hf _
    obtain ⟨g, rfl⟩ : ∃ g, f = g + 1 := ⟨f - 1, by simp at hf; omega⟩
    rw [plusTail, rdF_nil, if_pos (by omega), List.append_nil]
  | cons k t ih =>
    intro f ns hn hf hk
    obtain ⟨g, rfl⟩ : ∃ g, f = g + 1 := ⟨f - 1, by simp at hf; omega⟩
    have h1 := hk k (List.mem_cons_self ..)
    rw [plusTail, rdF_num (by unfold markC; rw [if_neg (by omega)]) h1.1 h1.2 (tail_head t), ih (by simp; omega) (by simp at hf; omega) (fun j hj => hk j (List.mem_cons_of_mem _ hj))]
    simp
/-- What stands behind the first word of a block's text. -/
def behT (p h m : Int) (l : List Int) : List UInt8 := 32 :: (dec p ++ 32 :: (dec h ++ 32 :: (dec m ++ 32 :: txsT l)))
theorem blT_beh (p h m : Int) (l : List Int) : blT p h m l = [98, 108, 111, 99, 107] ++ behT p h m l := by simp [blT, blHd, behT]
theorem tail_size (t : List Int) : t.length ≤ (plusTail t).length := by
  induction t with
  | nil => simp
  | cons k t ih => simp [plusTail]; omega
theorem rdF_beh {p h m : Int} {l : List Int} (hb : BlOk p h m l) : rdF ((behT p h m l).length + 1) (behT p h m l) [] = some (p :: h :: m :: l) := by
  have hl : l.length + 4 ≤ (behT p h m l).length := by
    have h1 : l.length ≤ (txsT l).length := by
      unfold txsT
      by_cases e : l = []
      · rw [e]; simp
      · rw [if_neg e]
        cases l with
        | nil => exact absurd rfl e
        | cons k t =>
          have h2 := tail_size t
          have h3 : 0 < (dec k).length := List.length_pos_iff.2 (digs_ne _)
          simp [plusT]; omega
    simp [behT]; omega
  obtain ⟨F, hF⟩ : ∃ F, (behT p h m l).length = F + 3 := ⟨(behT p h m l).length - 3, by omega⟩
  rw [hF]
  unfold behT
  refine (rdF_num (f := F + 3) (b := 32) (ns := []) rfl hb.p.1 (by have := hb.p; omega) (.inr ⟨32, _, rfl, no32⟩)).trans ((rdF_num (f := F + 2) (b := 32) (ns := [p]) rfl (by have := hb.h; omega) (by have := hb.h; omega) (.inr ⟨32, _, rfl, no32⟩)).trans ((rdF_num (f := F + 1) (b := 32) (ns := [p, h]) rfl (by have := hb.m; omega) hb.m.2 (.inr ⟨32, _, rfl, no32⟩)).trans ?_))
  show rdF (F + 1) (32 :: txsT l) [p, h, m] = _
  by_cases e : l = []
  · rw [e]
    exact rdF_end rfl rfl rfl
  · have et : txsT l = plusT l := by unfold txsT; rw [if_neg e]
    rw [et]
    cases l with
    | nil => exact absurd rfl e
    | cons k t =>
      have hk := hb.t k (List.mem_cons_self ..)
      rw [plusT, rdF_num (f := F) (b := 32) (ns := [p, h, m]) rfl (by omega) (by omega) (tail_head t)]
      have hlen : (k :: t).length + 4 ≤ F + 3 := by rw [← hF]; exact hl
      rw [rdF_tail (by simp) (by simp at hlen; omega) (fun j hj => by have := hb.t j (List.mem_cons_of_mem _ hj); omega)]
      rfl
/-- What readBlock comes to. -/
def rbR (t : List UInt8) : Option (Int × Int × Int × List Int) := if Lib.hasPrefix t [98, 108, 111, 99, 107] = true then (match rdF ((t.drop 5).length + 1) (t.drop 5) [] with | some (p :: h :: m :: l) => some (p, h, m, l) | _ => none) else none
theorem rbR_blT {p h m : Int} {l : List Int} (hb : BlOk p h m l) : rbR (blT p h m l) = some (p, h, m, l) := by
  unfold rbR
  rw [blT_beh, if_pos (by simp [Lib.hasPrefix])]
  have : ([98, 108, 111, 99, 107] ++ behT p h m l).drop 5 = behT p h m l := rfl
  rw [this, rdF_beh hb]
theorem pbR_read {t : List UInt8} {p h m : Int} {l : List Int} (h0 : blR p h m l = 0) (ht : blT p h m l = t) : pbR t = (0, (p, h, m, l)) := by
  unfold pbR
  rw [← ht, parB_blT h0]
  rfl
theorem pbR_not {t : List UInt8} (hn : ∀ p h m l, rbR t = some (p, h, m, l) → blR p h m l = 0 → blT p h m l = t → False) : pbR t = (5, (0, 0, 0, [])) := by
  unfold pbR
  by_cases e : (parB t).2 = true
  · obtain ⟨h1, h2⟩ := parB_sound e
    exact (hn _ _ _ _ (by conv => lhs; rw [← h2]; rw [rbR_blT (bl_ok h1)]) h1 h2).elim
  · rw [if_neg e]

end Go.Proofs.YtlacmcedpphphaaDoor
