/- Of each coin a line is told: the plain mathematics, and the draw. -/
import Derived.Test.YtlcdhhaikhieiaaDoorOm
import Derived.Test.YtlcdhhaikhieiaaDoorOe
import Derived.Test.YtlcdhhaikhieiaaDoorX3
import Derived.Test.YtlcdhhaikhieiaaDoorOb
namespace Go.Proofs.YtlcdhhaikhieiaaDoor
open Go.RowKit Go.Shelf Go.Maps Go.WideMaps

theorem cutL_app (c : UInt8) (s r : List UInt8) : cutL c (s ++ c :: r) = cutL c s ++ cutL c r := by
  induction s with
  | nil => simp [cutL]
  | cons b t ih =>
    rw [List.cons_append, cutL, cutL, ih]
    by_cases h : b = c
    · rw [if_pos h, if_pos h, List.cons_append]
    · rw [if_neg h, if_neg h]
      cases e : cutL c t with
      | nil => exact absurd e (cutL_ne c t)
      | cons x q => rfl
def wdN (t : List UInt8) : Nat := (wordsF (cutL 32 t)).length
theorem wdN_app (s r : List UInt8) : wdN (s ++ 32 :: r) = wdN s + wdN r := by
  unfold wdN
  rw [cutL_app]
  simp [wordsF]
theorem wdN_pos {t : List UInt8} {b : UInt8} (hb : b ∈ t) (h : b ≠ 32) : 1 ≤ wdN t := by
  induction t with
  | nil => cases hb
  | cons a t ih =>
    unfold wdN cutL
    by_cases e : a = 32
    · rw [if_pos e]
      have hm : b ∈ t := by
        rcases List.mem_cons.1 hb with q | q
        · exact absurd (q.trans e) h
        · exact q
      have := ih hm
      unfold wdN at this
      simpa [wordsF] using this
    · rw [if_neg e]
      cases e2 : cutL 32 t with
      | nil => exact absurd e2 (cutL_ne 32 t)
      | cons x q => simp [wordsF]
theorem coins_words (cs : List Co) : ∀ x : List UInt8, 3 * cs.length ≤ wdN (x ++ coinsT cs) := by
  induction cs with
  | nil => intro x; simp
  | cons c t ih =>
    intro x
    have e : x ++ coinsT (c :: t) = (x ++ [99, 111, 105, 110]) ++ 32 :: ((dec c.p ++ (58 :: dec c.q)) ++ 32 :: (dec c.v ++ 32 :: ((rtxR c.l c.x c.y ++ [10]) ++ coinsT t))) := by
      simp [coinsT, coinLT, coinT]
    rw [e, wdN_app, wdN_app, wdN_app]
    have h1 : 1 ≤ wdN (x ++ [99, 111, 105, 110]) := wdN_pos (b := 99) (by simp) (by decide)
    have h2 : 1 ≤ wdN (dec c.p ++ (58 :: dec c.q)) := wdN_pos (b := 58) (by simp) (by decide)
    have h3 : 1 ≤ wdN (dec c.v) := by
      have hne : dec c.v ≠ [] := digs_ne _
      obtain ⟨b, l, hb⟩ := List.exists_cons_of_ne_nil hne
      have hm : b ∈ dec c.v := by rw [hb]; exact List.mem_cons_self ..
      have := dec_dg c.v b hm
      exact wdN_pos hm (fun q => by rw [q] at this; simp at this)
    have h4 := ih (rtxR c.l c.x c.y ++ [10])
    simp only [List.length_cons]
    omega
theorem coins_wordsL (cs : List Co) : 3 * cs.length ≤ (wordsL (coinsT cs)).length := by
  have := coins_words cs []
  simpa [wdN, wordsL, wordsF] using this
/-- How many lines end in a text. -/
def nlN (t : List UInt8) : Nat := (t.filter (fun b => decide (b = 10))).length
theorem nlN_app (s r : List UInt8) : nlN (s ++ r) = nlN s + nlN r := by simp [nlN]
theorem nlN_no {t : List UInt8} (h : (10 : UInt8) ∉ t) : nlN t = 0 := by
  unfold nlN
  rw [List.length_eq_zero_iff, List.filter_eq_nil_iff]
  intro b hb e
  simp at e
  exact h (e ▸ hb)
theorem coins_lines (cs : List Co) (hT : ∀ c : Co, (10 : UInt8) ∉ coinT c) : nlN (coinsT cs) = cs.length := by
  induction cs with
  | nil => rfl
  | cons c t ih =>
    have e : coinsT (c :: t) = coinT c ++ ([10] ++ coinsT t) := by simp [coinsT, coinLT]
    rw [e, nlN_app, nlN_app, nlN_no (hT c), ih]
    simp [nlN]; omega

/-- Coins that were drawn for a law. -/
def OutDct (w w' : World) (e : Ending) : Prop :=
  ∃ (cs : List Co) (va : Option Addr) (n vc : Nat), e = .returned (.slice va n vc) ∧ n = cs.length ∧ Hid (CAt w' va n cs ∧ n ≤ 43 ∧ ∀ j, j < n → (cs.getD j C0).l.length ≤ 3) ∧ Below w.heap.size w w'
set_option maxHeartbeats 1000000 in
theorem drawCoinsText_any (cn cc : Nat) (ca : Option Addr) (l : List Int) (w : World) (hcn : cn ≤ 1048576) (hB : BAt w ca cn l) :
    Calls Tryd.prog 5 #[.slice ca cn cc] w fun e w' => OutDct w w' e := by
  have hs := l1Source_any ca cn cc w
  have HB : Hid (BAt w ca cn l) := hB
  clear hB
  go_enter Tryd.func5, Tryd.ntmps5
  go_wp2_with (first
    | (go_at_call 10; (with_reducible refine hs.mono ?_); clear hs; rintro e v ⟨rfl, hS⟩; have hx := l4Bent_any w.heap.size cn cc 0 ca l w v (by omega) hcn HB.out hS; clear hS)
    | (go_at_call 9; have hq := hx; clear hx; (with_reducible refine hq.mono ?_); clear hq; rintro e v2 ⟨cs, va, n, vc, t2, rfl, hn, ht2, HD⟩; have HN : Hid (n = cs.length) := hn; clear hn))
  go_ret
  exact ⟨cs, va, n, vc, rfl, HN.out, ⟨by rw [HN.out]; exact HD.out.at, by rw [HN.out]; exact HD.out.len.1, fun j hj => HD.out.len.2 j (by rw [← HN.out]; exact hj)⟩, HD.out.src.bel⟩

end Go.Proofs.YtlcdhhaikhieiaaDoor
