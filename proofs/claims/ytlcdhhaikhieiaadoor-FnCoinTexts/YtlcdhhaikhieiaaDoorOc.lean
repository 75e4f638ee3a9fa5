/- The program's list of a line's words, and WordsOf of both sides. -/
import Derived.Test.YtlcdhhaikhieiaaDoorOb
namespace Go.Proofs.YtlcdhhaikhieiaaDoor
open Go.RowKit Go.Shelf Go.Maps Go.WideMaps
attribute [local go_sem] Oper.semAt_some

set_option maxRecDepth 100000 in
set_option maxHeartbeats 4000000 in
theorem splitWords_any (t : List UInt8) (w : World) (ht : t.length ≤ 1048576) :
    Calls Tryd.prog 15 #[.string (str t)] w fun e w' => ∃ va vc, e = .returned (.slice va (wordsL t).length vc) ∧ w'.ownsRow w.heap.size 9 1 (.slice va (wordsL t).length vc) (wordsL t).length (texts (wordsL t)) ∧ Below w.heap.size w w' := by
  obtain ⟨i0, hi, hz0, hz1, hz2⟩ := info_parts Tryd.infoStr
  have hs1 : (w.alloc (.cells #[.slice none 0 0] 29)).heap.size = w.heap.size + 1 := by simp
  have hsp := SplitSeq_any (str t) ⟨#[32]⟩ (w.alloc (.cells #[.slice none 0 0] 29))
  rw [hs1] at hsp
  obtain ⟨k0, k1, k2, k3, k4⟩ := blocks4W w (.cells #[.slice none 0 0] 29) (.cells #[.string (str t)] 9) (.cells #[.string ⟨#[32]⟩] 9) (.cells #[.int .i64 0] 3)
  obtain ⟨w4, hw4⟩ : ∃ V, V = ((((w.alloc (.cells #[.slice none 0 0] 29)).alloc (.cells #[.string (str t)] 9)).alloc (.cells #[.string ⟨#[32]⟩] 9)).alloc (.cells #[.int .i64 0] 3)) := ⟨_, rfl⟩
  have hb4 : Below w.heap.size w w4 := by
    rw [hw4]
    exact (below_box2 _ _).trans ((below_box2 _ _).mono (below_box2 _ _).size)
  have hO4 : w4.ownsRow w4.heap.size 9 1 (.slice none 0 0) 0 [] := World.ownsRow_nil _ _ _ _
  have hV4 : Boxed w4 w.heap.size 29 (.slice none 0 0) := by
    rw [hw4]
    exact (((Boxed.new w 29 (.slice none 0 0)).alloc _).alloc _).alloc _
  rw [← hw4] at hsp k0 k1 k2 k3 k4
  have hI0 : GathW w w4.heap.size [] w4 := ⟨⟨none, 0, 0, hV4, hO4⟩, hb4, Nat.le_refl _⟩
  have hl1 : w.heap.size + 1 + 1 + 1 + 1 ≤ w4.heap.size := by omega
  have hl2 : w4.heap.size ≤ w.heap.size + 1 + 1 + 1 + 1 := by omega
  clear k4
  obtain ⟨lo, hlo⟩ : ∃ l, l = w4.heap.size := ⟨_, rfl⟩
  rw [← hlo] at hI0 hl1 hl2
  have hl3 : lo ≤ w4.heap.size := by omega
  have hl4 : w4.heap.size ≤ lo := by omega
  clear hlo
  have HLS : Hid (∀ x ∈ cutL 32 t, x.length ≤ t.length) := cutL_sub 32 t
  clear hw4 hs1 hO4 hV4 hb4
  refine (callsIn_wide (n := 3)).1 ?_
  refine callsIn_of_wp_marks Tryd.func15 rfl trivial ?_ rfl
  simp only [Tryd.ntmps15, List.size_toArray, List.length_cons, List.length_nil, Nat.reduceAdd, Nat.reduceSub, Array.replicate_succ, Array.replicate_zero, List.push_toArray, List.append_toArray, List.nil_append, List.cons_append]
  gi_wp2_with (first | (refine ⟨trivial, ?_⟩; gi_at_call 32; refine (callsIn_wide.2 hsp).mono ?_; rintro e w' ⟨rfl, hw⟩; have hw2 := hw.symm; subst hw2))
  refine range_allW (by omega) (gf := 65) (lb := #[.pointer (some ⟨w.heap.size + 1 + 1, 0, none⟩), .pointer (some ⟨w.heap.size + 1, 0, none⟩), .pointer (some ⟨w.heap.size + 1 + 1 + 1, 0, none⟩)]) rfl (enters_of Tryd.func65 (by kernel_rfl) rfl)
    (split_tellsW (w.heap.size + 1) (w.heap.size + 1 + 1) (w.heap.size + 1 + 1 + 1) 32 t w4 ht k1 k2 k3 (by omega) (by omega)) (fun r e => by omega) (fun r e => by omega) (Nat.le_refl _) (fun _ _ h _ => h) (fun _ => rfl)
    (GathW w lo) (GathW.own (fun r e => by omega) (fun r e => by omega)) hI0
    (fun x => { tmps := #[.string (str t), undef, .slice none 0 0, .pointer (some ⟨w.heap.size, 0, none⟩), .string (str x), .string (str t), .func (.func 65) #[] #[.pointer (some ⟨w.heap.size + 1 + 1, 0, none⟩), .pointer (some ⟨w.heap.size + 1, 0, none⟩), .pointer (some ⟨w.heap.size + 1 + 1 + 1, 0, none⟩)], .string (str x), undef, undef, undef, undef, undef, undef, undef], defers := [] }) ?assign ?body ?done
  case assign =>
    intro l x V K hK
    gi_wp2
    exact hK
  case body =>
    rintro l pre x W hx ⟨⟨va, vn, vc, hv, hrow⟩, hB, hlo⟩ hlen
    have hc := hv.cell
    have HIN : Hid (GathW w lo pre W) := ⟨⟨va, vn, vc, hv, hrow⟩, hB, hlo⟩
    by_cases he : x = []
    · have hee : ((str x).toList == []) = true := by rw [str_isW, decide_eq_true he]
      have HN : Hid (wordsF (pre ++ [x]) = wordsF pre) := wordsF_no _ he
      clear he hv hrow hB hlo
      gi_wp2
      refine ⟨⟨Nat.le_refl _, fun _ _ h _ => h⟩, fun _ _ h _ => h, ?_⟩
      show (∃ va vn vc, Boxed W w.heap.size 29 (.slice va vn vc) ∧ W.ownsRow lo 9 1 (.slice va vn vc) (wordsF (pre ++ [x])).length (texts (wordsF (pre ++ [x])))) ∧ _
      rw [HN.out]
      exact HIN.out
    · have hee : ((str x).toList == []) = false := by rw [str_isW, decide_eq_false he]
      have HN : Hid (wordsF (pre ++ [x]) = wordsF pre ++ [x]) := wordsF_yes _ he
      have hwl := wordsF_len pre
      clear he
      gi_wp2_with (gi_at_builtin; refine wpListIn_append_own _ rfl _ _ 29 rfl lo 9 i0 (.string ByteArray.empty) 1 16 Tryd.underlying29 hi hz0 hz1 hz2 rfl (by decide) _ _ _ rfl (hrow.alloc _) ⟨W.heap.size, 0, none⟩ 1 1 [.string (str x)] rfl rfl (World.news_of_block (heap_alloc_new _ _)) (by simp [Value.oneCell']) (by unfold maxLen; omega) (by omega) (by simp; omega) ?_; intro v' w1 hown' hgrow _; obtain ⟨g', cap', rfl⟩ := ownsRow_succ hown'; obtain ⟨hv1, HS⟩ := gatherW_step hv hrow (by omega) hlo hown' hgrow; have hc1 := hv1.cell; have hf1 := hv1.frozen)
      obtain ⟨s1, s2, s3, s4, s5, s6⟩ := HS.out
      refine ⟨s3, s6 _ (fun j e => by omega), ?_⟩
      show (∃ va vn vc, Boxed _ w.heap.size 29 (.slice va vn vc) ∧ World.ownsRow _ lo 9 1 (.slice va vn vc) (wordsF (pre ++ [x])).length (texts (wordsF (pre ++ [x])))) ∧ _
      rw [HN.out]
      exact ⟨⟨_, _, _, s1, by rw [texts_more, List.length_append]; exact s2⟩, hB.trans s4, s5⟩
  case done =>
    rintro D W hD ⟨⟨va, vn, vc, hv, hrow⟩, hB, hlo⟩ hK
    have hc := hv.cell
    gi_wp2
    refine ⟨by simp, .inl ⟨_, _, rfl, run_takeDeferred hK, ?_⟩⟩
    have hrow' : W.ownsRow lo 9 1 (.slice va vn vc) (wordsL t).length (texts (wordsL t)) := hrow
    have hvn : vn = (wordsL t).length := by
      rcases hrow'.2 with ⟨q, q0⟩ | ⟨g, cap, cur, q, _⟩
      · injection q with _ h _; rw [h, q0]
      · injection q
    subst hvn
    have hr2 := Joins.ownsRow_le hrow' (show w.heap.size ≤ lo by omega)
    exact ⟨_, results_tmp rfl _ _ _, va, vc, rfl, ownsRow_putObj hr2 _ hK rfl, hB.trans (belowK_b (w := w) (Nat.le_refl _) W D _ _ (by omega) hK rfl rfl)⟩

set_option maxHeartbeats 1000000 in
theorem iWordsOf_any (t : List UInt8) (w : World) (ht : t.length ≤ 1048576) :
    Calls Tryd.prog 8 #[.string (str t)] w fun e w' => ∃ va vc, e = .returned (.agg #[.int .i64 0, .slice va (wordsL t).length vc]) ∧ Hid (w'.ownsRow w.heap.size 9 1 (.slice va (wordsL t).length vc) (wordsL t).length (texts (wordsL t))) ∧ Hid (Below w.heap.size w w') := by
  obtain ⟨l, hl⟩ : ∃ l, l = wordsL t := ⟨_, rfl⟩
  have hq := splitWords_any t (w.alloc (.cells #[.int .i64 0, .slice none 0 0] 31)) ht
  rw [← hl] at hq ⊢
  have hs1 : (w.alloc (.cells #[.int .i64 0, .slice none 0 0] 31)).heap.size = w.heap.size + 1 := by simp
  have hb1 : Below w.heap.size w (w.alloc (.cells #[.int .i64 0, .slice none 0 0] 31)) := below_box _
  have hh1 : (w.alloc (.cells #[.int .i64 0, .slice none 0 0] 31)).heap[w.heap.size]? = some (.cells #[.int .i64 0, .slice none 0 0] 31 (0, 0)) := heap_alloc_new _ _
  rw [hs1] at hq
  clear hs1 hl
  go_enter Tryd.func8, Tryd.ntmps8
  go_wp2_with (first | (go_at_call 15; (with_reducible refine hq.mono ?_); clear hq; rintro e W ⟨va, vc, rfl, hO, hbW⟩; have HO : Hid (W.ownsRow (w.heap.size + 1) 9 1 (.slice va l.length vc) l.length (texts l)) := hO; have HB : Hid (Below w.heap.size w W) := hb1.trans (hbW.mono (by omega)); obtain ⟨q0, q1, q2, q3, HR⟩ := res_cells hh1 hbW (by omega); clear hO hbW hb1 hh1))
  obtain ⟨s0, s1, s2⟩ := two_set HR.out (.int .i64 0) (.slice va l.length vc)
  refine bodyPost_ret (v := .agg #[.int .i64 0, .slice va l.length vc]) (by simp [results, Tryd.results8, go_sem, s1, s2]) rfl ?_
  refine ⟨va, vc, rfl, ?_, (HB.out.setCell (p := ⟨w.heap.size, 0, none⟩) (Nat.le_refl _) _).setCell (p := ⟨w.heap.size, 1, none⟩) (Nat.le_refl _) _⟩
  show World.ownsRow _ _ _ _ _ _ _
  exact Joins.ownsRow_le (ownsRow_setCell_below (ownsRow_setCell_below HO.out (a := ⟨w.heap.size, 0, none⟩) (by show w.heap.size < _; omega) _) (a := ⟨w.heap.size, 1, none⟩) (by show w.heap.size < _; omega) _) (Nat.le_succ _)

end Go.Proofs.YtlcdhhaikhieiaaDoor
