/- What noting a text comes to: pure. -/
import Derived.Test.YtbpfbnmnpilgkaaINt
import Derived.Test.YtbpfbnmnpilgkaaTextOf
import Derived.Test.YtbpfbnmnpilgkaaIdOf
namespace Go.Proofs.Ytbpfbnmnpilgkaa
open Go.RowKit

theorem num_get {l : List ByteArray} {x d : ByteArray} : ∀ {k : Nat}, num l x = k + 1 → l.getD k d = x := by
  induction l with
  | nil => intro k h; simp [num] at h
  | cons y t ih =>
    intro k h
    simp only [num] at h
    by_cases e : y = x
    · rw [if_pos e] at h
      obtain rfl : k = 0 := by omega
      simpa using e
    · rw [if_neg e] at h
      by_cases e0 : num t x = 0
      · rw [if_pos e0] at h; omega
      · rw [if_neg e0] at h
        obtain ⟨j, hj⟩ : ∃ j, num t x = j + 1 := ⟨num t x - 1, by omega⟩
        obtain rfl : k = j + 1 := by omega
        simpa using ih hj
theorem tgo_snoc {x : ByteArray} (hx : ¬ (x.size < 1 ∨ 300 < x.size)) : ∀ (l seen : List ByteArray), tgo seen l = 0 → num (seen ++ l) x = 0 → tgo seen (l ++ [x]) = 0
  | [], seen, _, h => by
    rw [List.nil_append, tgo, if_neg hx, if_neg (by simpa using h)]
    rfl
  | s :: r, seen, h, hn => by
    rw [tgo] at h
    rw [List.cons_append, tgo]
    split at h
    · cases h
    · rename_i h1
      rw [if_neg h1]
      split at h
      · cases h
      · rename_i h2
        rw [if_neg h2]
        exact tgo_snoc hx r (seen ++ [s]) h (by simpa using hn)
theorem sgo_more {n n' : Int} (hn : n ≤ n') : ∀ (l seen : List (Int × Int)), sgo n seen l = 0 → sgo n' seen l = 0
  | [], _, _ => rfl
  | g :: r, seen, h => by
    rw [sgo] at h ⊢
    split at h
    · cases h
    · rename_i h1
      rw [if_neg (by omega)]
      split at h
      · cases h
      · rename_i h2
        rw [if_neg h2]
        exact sgo_more hn r (seen ++ [g]) h
theorem flt_parts {ss : List ByteArray} {gs : List (Int × Int)} (h : flt ss gs = 0) : ss.length ≤ 60 ∧ gs.length ≤ 120 ∧ tgo [] ss = 0 ∧ sgo ss.length [] gs = 0 := by
  unfold flt at h
  split at h
  · cases h
  · rename_i h1
    split at h
    · rename_i h2; exact absurd h h2
    · rename_i h2
      exact ⟨by omega, by omega, by simpa using h2, h⟩
theorem flt_make {ss : List ByteArray} {gs : List (Int × Int)} (h1 : ss.length ≤ 60) (h2 : gs.length ≤ 120) (h3 : tgo [] ss = 0) (h4 : sgo ss.length [] gs = 0) : flt ss gs = 0 := by
  unfold flt
  rw [if_neg (by omega), if_neg (by simp [h3]), h4]

/-- What holds of a ledger with a text that was noted. -/
structure Noted (ss : List ByteArray) (gs : List (Int × Int)) (x : ByteArray) (k : Nat) (s2 : List ByteArray) : Prop where
  ok : flt s2 gs = 0
  nu : num s2 x = k
  pos : 1 ≤ k
  le : k ≤ s2.length
  few : s2.length ≤ 60
  more : ss.length ≤ s2.length
  same : ∀ i, i < ss.length → s2.getD i E0 = ss.getD i E0
  again : noteR s2 gs x = ⟨0, k, s2, gs⟩
  fits : ¬ (x.size < 1 ∨ 300 < x.size)
theorem noted_of {ss : List ByteArray} {gs : List (Int × Int)} {x : ByteArray} (h : (noteR ss gs x).c = 0) : ∃ (k : Nat) (s2 : List ByteArray), noteR ss gs x = ⟨0, (k : Int), s2, gs⟩ ∧ Noted ss gs x k s2 := by
  by_cases hf : flt ss gs = 0
  · obtain ⟨f1, f2, f3, f4⟩ := flt_parts hf
    by_cases hx : x.size < 1 ∨ 300 < x.size
    · rw [noteR_size hf.symm hx] at h; cases h
    by_cases hk : num ss x = 0
    · by_cases h60 : 60 ≤ ss.length
      · rw [noteR_full rfl hf.symm hx hk h60] at h; cases h
      have hok : flt (ss ++ [x]) gs = 0 := flt_make (by simp; omega) f2 (tgo_snoc hx ss [] f3 (by simpa using hk)) (by
        refine sgo_more ?_ gs [] f4
        simp
        omega)
      have hnum : num (ss ++ [x]) x = ss.length + 1 := num_self hk
      refine ⟨ss.length + 1, ss ++ [x], by rw [noteR_new rfl hf.symm hx hk h60]; simp, hok, hnum, by omega, by simp, by simp; omega, by simp, fun i hi => by simp [List.getD, List.getElem?_append_left hi], ?_, hx⟩
      exact noteR_old hok.symm hx hnum.symm (by omega)
    · have e := noteR_old hf.symm hx (k := num ss x) rfl hk
      exact ⟨num ss x, ss, e, hf, rfl, by omega, num_le ss x, f1, Nat.le_refl _, fun _ _ => rfl, e, hx⟩
  · rw [noteR_bad rfl hf] at h
    exact absurd h hf
theorem idR_snd {s2 : List ByteArray} {gs : List (Int × Int)} {y : ByteArray} (h : flt s2 gs = 0) : (idR s2 gs y).2 = (num s2 y : Int) := by
  by_cases e : num s2 y = 0
  · rw [idR_none h.symm e, e]; rfl
  · rw [idR_ok h.symm rfl e]
theorem Noted.own {ss : List ByteArray} {gs : List (Int × Int)} {x : ByteArray} {k : Nat} {s2 : List ByteArray} (H : Noted ss gs x k s2) {y : ByteArray} : decide (num s2 y = k) = decide (y = x) := by
  by_cases e : y = x
  · subst e
    rw [decide_eq_true H.nu, decide_eq_true rfl]
  · rw [decide_eq_false e, decide_eq_false]
    intro e2
    obtain ⟨j, rfl⟩ : ∃ j, k = j + 1 := ⟨k - 1, by have := H.pos; omega⟩
    exact e ((num_get (d := E0) e2).symm.trans (num_get (d := E0) H.nu))
theorem Noted.text {ss : List ByteArray} {gs : List (Int × Int)} {x : ByteArray} {k : Nat} {s2 : List ByteArray} (H : Noted ss gs x k s2) {i : Nat} (hi : i < ss.length) : textR s2 gs ((i : Int) + 1) = (0, ss.getD i E0) := by
  refine textR_ok rfl H.ok.symm (inB_true.2 ⟨by omega, by have := H.more; omega⟩) ?_
  rw [← H.same i hi]
  congr 1
  omega
theorem Noted.mine {ss : List ByteArray} {gs : List (Int × Int)} {x : ByteArray} {k : Nat} {s2 : List ByteArray} (H : Noted ss gs x k s2) : textR s2 gs (k : Int) = (0, x) := by
  refine textR_ok rfl H.ok.symm (inB_true.2 ⟨by have := H.pos; omega, by have := H.le; omega⟩) ?_
  obtain ⟨j, rfl⟩ : ∃ j, k = j + 1 := ⟨k - 1, by have := H.pos; omega⟩
  have e : (((j + 1 : Nat) : Int) - 1).toNat = j := by omega
  rw [e]
  exact (num_get H.nu).symm
theorem Noted.id {ss : List ByteArray} {gs : List (Int × Int)} {x : ByteArray} {k : Nat} {s2 : List ByteArray} (H : Noted ss gs x k s2) : idR s2 gs x = (0, (k : Int)) := idR_ok H.ok.symm H.nu.symm (by have := H.pos; omega)

end Go.Proofs.Ytbpfbnmnpilgkaa
