/- A line's words: the specification's and the program's. -/
import Derived.Test.YtcknimklkjhfiaaDoorOa
namespace Go.Proofs.YtcknimklkjhfiaaDoor
open Go.RowKit Go.Shelf Go.Maps Go.WideMaps
attribute [local go_sem] Oper.semAt_some

theorem wordsF_cut (c : UInt8) (t : List UInt8) : (wordsF (cutL c t)).length ≤ t.length := by
  induction t with
  | nil => simp [cutL, wordsF]
  | cons b t ih =>
    unfold cutL
    by_cases h : b = c
    · rw [if_pos h]
      have : wordsF ([] :: cutL c t) = wordsF (cutL c t) := by simp [wordsF]
      rw [this]
      simp; omega
    · rw [if_neg h]
      cases e : cutL c t with
      | nil => exact absurd e (cutL_ne c t)
      | cons x r =>
        rw [e] at ih
        have h1 : (wordsF ((b :: x) :: r)).length = (wordsF r).length + 1 := by simp [wordsF]
        have h2 : (wordsF r).length ≤ (wordsF (x :: r)).length := by
          unfold wordsF
          rw [List.filter_cons]
          split
          · simp
          · exact Nat.le_refl _
        simp only [h1, List.length_cons]; omega
theorem wordsL_len (t : List UInt8) : (wordsL t).length ≤ t.length := wordsF_cut 32 t
theorem wordsF_take {ls : List (List UInt8)} {k : Nat} (hk : k < ls.length) : ls.take (k + 1) = ls.take k ++ [ls.getD k []] := by
  rw [List.take_succ_eq_append_getElem hk]
  simp [List.getD, hk]

theorem str_isW (a b : List UInt8) : ((str a).toList == b) = decide (a = b) := by
  have e : (str a).toList = a := by simp [str]
  rw [e]
  by_cases h : a = b
  · rw [h]; simp
  · rw [decide_eq_false h]; exact beq_false_of_ne h

/-- A text more, beside another row that stays. -/
theorem text_addedW {W : World} {lo j : Nat} {v : Value} {xs : List Value} {s : ByteArray} {B g4 n4 c4 : Nat} {ys : List Value} (h : W.ownsRow lo 9 1 v j xs) (hj : j ≤ 4000000) (hlo : lo ≤ W.heap.size) (hq : W.ownsRow B 9 1 (.slice (some ⟨g4, 0, none⟩) n4 c4) n4 ys) (hne : v.ownBlock ≠ some g4) (hl4 : g4 < W.heap.size) :
    ∃ g cap w5, (Builtin.append_ #[22, 22] 22 #[v, .slice (some ⟨W.heap.size, 0, none⟩) 1 1]).run Tryd.prog (W.alloc (.cells #[.string s] 9)) = .ok (.slice (some ⟨g, 0, none⟩) (j + 1) cap) w5 ∧
      Hid (w5.ownsRow lo 9 1 (.slice (some ⟨g, 0, none⟩) (j + 1) cap) (j + 1) (xs ++ [.string s]) ∧ Below lo W w5 ∧ w5.ownsRow B 9 1 (.slice (some ⟨g4, 0, none⟩) n4 c4) n4 ys ∧ g ≠ g4) := by
  obtain ⟨i0, hi, hz0, hz1, hz2⟩ := info_parts Tryd.infoStr
  obtain ⟨v', w5, hrun, hown', hgrow, _, hat⟩ := run_append_own_at (P := Tryd.prog) (w := W.alloc (.cells #[.string s] 9)) lo 22 22 9 i0 (.string ByteArray.empty) 1 16 Tryd.underlying22 hi hz0 hz1 hz2 rfl (by decide) v j xs (h.alloc _) ⟨W.heap.size, 0, none⟩ 1 1 [.string s] rfl (World.news_of_block (heap_alloc_new _ _)) (by
    intro z hz
    simp only [List.mem_cons, List.not_mem_nil, or_false] at hz
    rw [hz]; rfl) (by unfold maxLen; omega) (by omega) (by simp; omega)
  obtain ⟨g, cap, rfl⟩ := ownsRow_succ hown'
  refine ⟨g, cap, w5, hrun, hown', ((below_box _).mono hlo).grown hgrow (by simp; omega) (fun k hk => (h.lt k hk).1), (hq.alloc _).kept hgrow (.inr (by simpa [Value.ownBlock] using hne.symm)), ?_⟩
  rcases hat with q | q
  · intro e; subst e; exact hne (by rw [← q]; rfl)
  · simp [Value.ownBlock] at q; omega

set_option maxRecDepth 20000 in
set_option maxHeartbeats 2000000 in
theorem l16Words_any (t : List UInt8) (w : World) (ht : t.length ≤ 1048576) :
    Calls Tryd.prog 9 #[.string (str t)] w fun e w' => ∃ va vc, e = .returned (.slice va (wordsL t).length vc) ∧ w'.ownsRow w.heap.size 9 1 (.slice va (wordsL t).length vc) (wordsL t).length (texts (wordsL t)) ∧ Below w.heap.size w w' := by
  obtain ⟨ls, hls⟩ : ∃ ls, ls = cutL 32 t := ⟨_, rfl⟩
  have hcut : Calls Tryd.prog 14 #[.string (str t), .int .u8 32] (w.alloc (.cells #[] 9)) fun e w' => ∃ va vc, e = .returned (.slice va (cutL 32 t).length vc) ∧ w'.ownsRow (w.alloc (.cells #[] 9)).heap.size 9 1 (.slice va (cutL 32 t).length vc) (cutL 32 t).length (texts (cutL 32 t)) ∧ Below (w.alloc (.cells #[] 9)).heap.size (w.alloc (.cells #[] 9)) w' := l2Cut_any t 32 (w.alloc (.cells #[] 9)) ht
  have hlen := cutL_len 32 t
  have hne : 0 < (cutL 32 t).length := List.length_pos_iff.2 (cutL_ne 32 t)
  have hW : wordsL t = wordsF ls := by rw [hls]; rfl
  rw [hW]
  rw [← hls] at hcut hlen hne
  have hs1 : (w.alloc (.cells #[] 9)).heap.size = w.heap.size + 1 := by simp
  rw [hs1] at hcut
  have hb1 : Below w.heap.size w (w.alloc (.cells #[] 9)) := below_box _
  have hr1 : (w.alloc (.cells #[] 9)).ownsRow w.heap.size 9 1 (.slice (some ⟨w.heap.size, 0, none⟩) 0 0) 0 [] := ⟨rfl, .inr ⟨w.heap.size, 0, #[], rfl, Nat.le_refl _, heap_alloc_new _ _, Nat.le_refl _, by unfold maxLen; omega, rfl, rfl⟩⟩
  clear hls hW
  go_enter Tryd.func9, Tryd.ntmps9
  have HX0 : ∀ (W : World) (g4 q4 : Nat), Below (w.heap.size + 1) (w.alloc (.cells #[] 9)) W → W.ownsRow (w.heap.size + 1) 9 1 (.slice (some ⟨g4, 0, none⟩) ls.length q4) ls.length (texts ls) → Hid (W.ownsRow w.heap.size 9 1 (.slice (some ⟨w.heap.size, 0, none⟩) 0 0) 0 [] ∧ W.ownsRow (w.heap.size + 1) 9 1 (.slice (some ⟨g4, 0, none⟩) ls.length q4) ls.length (texts ls) ∧ w.heap.size ≠ g4 ∧ Below w.heap.size w W ∧ w.heap.size < W.heap.size) := fun W g4 q4 hb hO => by
    have hl := (hO.lt g4 rfl).1
    have hz := hb.size
    refine ⟨?_, hO, by omega, hb1.trans (hb.mono (by omega)), by omega⟩
    rw [← hs1] at hb
    exact hr1.kept (grown_of_below hb) (.inr (by simp [Value.ownBlock]))
  clear hr1 hb1 hs1
  go_wp2_with (first | (go_at_call 14; go_loud ((with_reducible refine hcut.mono ?_); clear hcut; rintro e W ⟨va, vc4, rfl, hO, hbW⟩; obtain ⟨g4, q4, hq4⟩ := Joins.ownsRow_form hO hne; cases hq4; have HX := HX0 W g4 vc4 hbW hO; clear HX0 hO hbW)))
  have HT : Hid (ls.length ≤ t.length + 1) := hlen
  have hlN : ls.length ≤ 1048577 := by omega
  clear hlen
  go_loopw [3, 5] (fun v i wr => ∃ k : Nat, k ≤ ls.length ∧ i = .int .i64 k ∧ ∃ g vc m, v = .slice (some ⟨g, 0, none⟩) m vc ∧ Hid (m = (wordsF (ls.take k)).length ∧ wr.ownsRow w.heap.size 9 1 (.slice (some ⟨g, 0, none⟩) m vc) m (texts (wordsF (ls.take k))) ∧ wr.ownsRow (w.heap.size + 1) 9 1 (.slice (some ⟨g4, 0, none⟩) ls.length vc4) ls.length (texts ls) ∧ g ≠ g4 ∧ Below w.heap.size w wr ∧ w.heap.size < wr.heap.size)) (fun _ i _ => ls.length - (intOf i).toNat)
  case atStart => exact ⟨0, Nat.zero_le _, rfl, w.heap.size, 0, 0, rfl, by rw [List.take_zero]; rfl, HX.out⟩
  case round =>
    obtain ⟨k, hk, rfl, g, vc, m, rfl, HI⟩ := hrel
    by_cases hlt : k < ls.length
    · obtain ⟨x, hx⟩ : ∃ x, x = ls.getD k [] := ⟨_, rfl⟩
      have hki : (k : Int) < (ls.length : Int) := by omega
      have hcell : wr.cell? ⟨g4, k, none⟩ = some (.string (str x)) := by
        rw [HI.out.2.2.1.cellAt k (by omega), hx]
        simp [texts, List.getD, hlt]
      have hXT : ls.take (k + 1) = ls.take k ++ [x] := by rw [hx]; exact wordsF_take hlt
      have HXT : Hid (ls.take (k + 1) = ls.take k ++ [x]) := hXT
      have hml : m ≤ 4000000 := by
        have h1 := HI.out.1
        have h2 := wordsF_len (ls.take k)
        have h3 := HT.out
        simp only [List.length_take] at h2
        omega
      clear hXT hx
      by_cases he : x = []
      · have hee : ((str x).toList == []) = true := by rw [str_isW, decide_eq_true he]
        have HN : Hid (wordsF (ls.take (k + 1)) = wordsF (ls.take k)) := by show _ = _; rw [HXT.out]; exact wordsF_no _ he
        clear he
        go_wp2
        go_roundw
        case rel => exact ⟨k + 1, by omega, by go_num, g, vc, m, rfl, by rw [HN.out]; exact HI.out⟩
        case measure => simp [intOf]; omega
      · have hee : ((str x).toList == []) = false := by rw [str_isW, decide_eq_false he]
        have HN : Hid (wordsF (ls.take (k + 1)) = wordsF (ls.take k) ++ [x]) := by show _ = _; rw [HXT.out]; exact wordsF_yes _ he
        obtain ⟨g5, cap, w5, hrun, H5⟩ := text_addedW (s := str x) HI.out.2.1 hml (Nat.le_of_lt HI.out.2.2.2.2.2) HI.out.2.2.1 (by simp [Value.ownBlock]; exact HI.out.2.2.2.1) (HI.out.2.2.1.lt g4 rfl).2
        clear he
        go_wp2_with (first | (at_builtin; go_must (refine wpList_append_runC (by rfl) _ _ _ (by rfl) (by rfl) (by rfl) hrun ?_); clear hrun))
        go_roundw
        case rel =>
          refine ⟨k + 1, by omega, by go_num, g5, cap, m + 1, rfl, ?_⟩
          obtain ⟨h1, h2, h3, h4⟩ := H5.out
          obtain ⟨i1, i2, i3, i4, i5, i6⟩ := HI.out
          refine ⟨by rw [HN.out, List.length_append, ← i1]; rfl, by rw [HN.out, texts_more]; exact h1, h3, h4, i5.trans h2, Nat.lt_of_lt_of_le i6 h2.size⟩
        case measure => simp [intOf]; omega
    · obtain rfl : k = ls.length := by omega
      go_wp2
      go_ret
      obtain ⟨i1, i2, i3, i4, i5, i6⟩ := HI.out
      rw [List.take_length] at i1 i2
      rw [← i1]
      exact ⟨_, _, rfl, i2, i5⟩

end Go.Proofs.YtcknimklkjhfiaaDoor
