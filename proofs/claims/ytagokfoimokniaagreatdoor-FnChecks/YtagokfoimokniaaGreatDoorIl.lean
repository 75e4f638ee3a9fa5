/- What is known where CheckTx finds no fault: the plain mathematics. -/
import Derived.Test.YtagokfoimokniaaGreatDoorIj
import Derived.Test.YtagokfoimokniaaGreatDoorAa
import Derived.Test.YtagokfoimokniaaGreatDoorRi
namespace Go.Proofs.YtagokfoimokniaaGreatDoor
open Go.RowKit Go.Maps Go.WideMaps

structure CkOk (ss : List ByteArray) (gs : List (Int × Int)) (cs : List Co) (k f : Int) (rs : List (Int × Int)) (os : List Ou) (h fee : Int) : Prop where
  fl : flt ss gs = 0
  c : coinsR cs = 0
  t : txR k f rs os = 0
  hh : inB h 0 999 = true
  tx : (ttR k f rs os).1 = 0
  idn : num ss (str (ttR k f rs os).2) ≠ 0
  a : rs.all (hasC cs) = true
  may : maysR gs (num ss (str (ttR k f rs os).2)) h (inC cs rs) = 0
  val : fee = valsR (inC cs rs) - (os.map Ou.v).sum
  pos : 0 ≤ fee
theorem ckOk {ss : List ByteArray} {gs : List (Int × Int)} {cs : List Co} {k f : Int} {rs : List (Int × Int)} {os : List Ou} {h : Int} (h0 : (checkR ss gs cs k f rs os h).1 = 0) : CkOk ss gs cs k f rs os h (checkR ss gs cs k f rs os h).2 := by
  unfold checkR at h0 ⊢
  by_cases a1 : flt ss gs ≠ 0
  · rw [if_pos a1] at h0; exact absurd h0 a1
  rw [if_neg a1] at h0 ⊢
  by_cases a2 : coinsR cs ≠ 0
  · rw [if_pos a2] at h0; exact absurd h0 a2
  rw [if_neg a2] at h0 ⊢
  unfold ckR at h0 ⊢
  by_cases a3 : txR k f rs os ≠ 0
  · rw [if_pos a3] at h0; exact absurd h0 a3
  rw [if_neg a3] at h0 ⊢
  by_cases a4 : inB h 0 999 = false
  · rw [if_pos a4] at h0; cases h0
  rw [if_neg a4] at h0 ⊢
  unfold fee2R at h0 ⊢
  by_cases a5 : notedC ss k f rs os ≠ 0
  · rw [if_pos a5] at h0; exact absurd h0 a5
  rw [if_neg a5] at h0 ⊢
  unfold feeR at h0 ⊢
  by_cases a6 : rs.all (hasC cs) = false
  · rw [if_pos a6] at h0; cases h0
  rw [if_neg a6] at h0 ⊢
  by_cases a7 : maysR gs (num ss (str (ttR k f rs os).2)) h (inC cs rs) ≠ 0
  · rw [if_pos a7] at h0; exact absurd h0 a7
  rw [if_neg a7] at h0 ⊢
  by_cases a8 : k = 2 ∧ memB gs (f, ((num ss (str (ttR k f rs os).2) : Nat) : Int)) = false
  · rw [if_pos a8] at h0; cases h0
  rw [if_neg a8] at h0 ⊢
  by_cases a9 : valsR (inC cs rs) - (os.map Ou.v).sum < 0
  · rw [if_pos a9] at h0; cases h0
  rw [if_neg a9]
  have hn : (ttR k f rs os).1 = 0 ∧ num ss (str (ttR k f rs os).2) ≠ 0 := by
    unfold notedC at a5
    by_cases b1 : (ttR k f rs os).1 ≠ 0
    · rw [if_pos b1] at a5; exact absurd b1 a5
    rw [if_neg b1] at a5
    by_cases b2 : num ss (str (ttR k f rs os).2) = 0
    · rw [if_pos b2] at a5; simp at a5
    · exact ⟨by simpa using b1, b2⟩
  exact ⟨by simpa using a1, by simpa using a2, by simpa using a3, by simpa using a4, hn.1, hn.2, by simpa using a6, by simpa using a7, rfl, by show 0 ≤ valsR (inC cs rs) - (os.map Ou.v).sum; omega⟩
section
variable {ss : List ByteArray} {gs : List (Int × Int)} {cs : List Co} {k f : Int} {rs : List (Int × Int)} {os : List Ou} {h fee : Int}
theorem CkOk.id (H : CkOk ss gs cs k f rs os h fee) : idR ss gs (str (ttR k f rs os).2) = (0, ((num ss (str (ttR k f rs os).2) : Nat) : Int)) := by
  unfold idR
  rw [if_neg (by simp [H.fl]), if_neg H.idn]
theorem CkOk.spent (H : CkOk ss gs cs k f rs os h fee) : spentR cs k f rs os = (0, inC cs rs) := by
  unfold spentR
  rw [if_neg (by simp [H.c]), if_neg (by simp [H.t]), if_pos H.a]
theorem CkOk.len (H : CkOk ss gs cs k f rs os h fee) : (inC cs rs).length = rs.length := by
  have h1 := in_full (coins_rise H.c).2.2 (tx_facts H.t).2.1
  rw [H.a, decide_eq_true_eq] at h1
  exact h1
theorem mays_each : ∀ {t : List Co} {id : Int}, maysR gs id h t = 0 → ∀ c ∈ t, mayR gs id h c = 0
  | [], _, _, c, hc => by cases hc
  | x :: t, id, e, c, hc => by
    have hx : mayR gs id h x = 0 := by
      by_cases q : mayR gs id h x = 0
      · exact q
      · rw [mays_no rfl q] at e; exact absurd e q
    rcases List.mem_cons.1 hc with rfl | hc
    · exact hx
    · rw [mays_yes hx] at e
      exact mays_each e c hc
theorem CkOk.each (H : CkOk ss gs cs k f rs os h fee) {c : Co} (hc : c ∈ inC cs rs) : ripeB c.h c.m h = true ∧ metR ss gs c.l c.x c.y ((num ss (str (ttR k f rs os).2) : Nat) : Int) h = 0 := by
  have h1 := mays_each H.may c hc
  obtain ⟨r1, r2, _, _⟩ := coin_rule ((coins_rise H.c).2.1 c (List.mem_filter.1 hc).1)
  unfold mayR at h1
  by_cases a1 : (!c.m || decide (c.h + 2 ≤ h)) = false
  · rw [if_pos a1] at h1; cases h1
  rw [if_neg a1] at h1
  by_cases a2 : h < c.y
  · rw [if_pos a2] at h1; cases h1
  rw [if_neg a2] at h1
  by_cases a3 : (cntK c.l gs ((num ss (str (ttR k f rs os).2) : Nat) : Int) : Int) < c.x
  · rw [if_pos a3] at h1; cases h1
  refine ⟨?_, ?_⟩
  · unfold ripeB
    have a2 : (!c.m || decide (c.h + 2 ≤ h)) = true := by
      cases e : (!c.m || decide (c.h + 2 ≤ h))
      · exact absurd e a1
      · rfl
    rw [r2, H.hh, a2]
    rfl
  · have hid : inB ((num ss (str (ttR k f rs os).2) : Nat) : Int) 1 ss.length = true := by
      have q1 := H.idn
      have q2 := num_le ss (str (ttR k f rs os).2)
      exact inB_true.2 ⟨by omega, by omega⟩
    unfold metR
    rw [if_neg (by simp [H.fl]), if_neg (by simp [r1]), if_neg (by rw [hid, H.hh]; simp), if_neg a2, if_neg a3]
theorem CkOk.right (H : CkOk ss gs cs k f rs os h fee) : coinsR (inC cs rs) = 0 := by
  obtain ⟨a, b, c⟩ := coins_rise H.c
  exact coinsR_back (Nat.le_trans (List.length_filter_le _ _) a) (fun x hx => b x (List.mem_filter.1 hx).1) (c.filter _)
theorem vals_split (rs : List (Int × Int)) : ∀ cs : List Co, valsR cs = valsR (outC2 cs rs) + valsR (inC cs rs)
  | [] => rfl
  | c :: t => by
    have ih := vals_split rs t
    unfold outC2 inC at ih ⊢
    cases e : memB rs (c.p, c.q)
    · rw [List.filter_cons_of_pos (by simp [e]), List.filter_cons_of_neg (by simp [e])]
      simp only [valsR]
      omega
    · rw [List.filter_cons_of_neg (by simp [e]), List.filter_cons_of_pos (by simp [e])]
      simp only [valsR]
      omega
theorem outV_sum (os : List Ou) : outV os os.length = (os.map Ou.v).sum := by
  have key : ∀ k, k ≤ os.length → outV os k = ((os.take k).map Ou.v).sum := by
    intro k
    induction k with
    | zero => intro _; rfl
    | succ k ih =>
      intro hk
      have hlt : k < os.length := by omega
      rw [outV_succ, ih (by omega), List.take_add_one, List.getElem?_eq_getElem hlt, List.map_append, List.sum_append]
      have e : (os.getD k O0) = os[k] := by rw [List.getD_eq_getElem?_getD, List.getElem?_eq_getElem hlt]; rfl
      rw [e]
      simp
  rw [key os.length (Nat.le_refl _), List.take_length]
/-- What is spent is made again but for the fee. -/
theorem CkOk.keep (H : CkOk ss gs cs k f rs os h fee) {id : Int} {out : List Co} (P : SpOk cs k f rs os id h out) : valsR out = valsR cs - fee := by
  have h1 := putOk_vals P.put
  have h2 := vals_split rs cs
  have h3 := H.val
  rw [outV_sum] at h1
  omega
/-- Sums that stay small. -/
theorem vals_small {l : List Co} (h : coinsR l = 0) : 0 ≤ valsR l ∧ valsR l ≤ 40000000 := by
  have h1 := vals_right h
  have h2 := vals_top (cs := l) (fun c hc => (h1 c hc).2)
  have h3 := vals_part (cs := l) (fun _ => true) (fun c hc => by have := h1 c hc; omega)
  have h4 := (coins_rise h).1
  constructor <;> omega
theorem sum_of {l : List Co} (h : coinsR l = 0) : coinSumR l = (0, valsR l) := by unfold coinSumR; rw [if_pos h]
theorem CkOk.outs (H : CkOk ss gs cs k f rs os h fee) : sumR k f rs os = (0, (os.map Ou.v).sum) := by unfold sumR; rw [if_neg (by simp [H.t])]
end
end Go.Proofs.YtagokfoimokniaaGreatDoor
