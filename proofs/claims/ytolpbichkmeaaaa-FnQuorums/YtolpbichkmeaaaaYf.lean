/- Keys, a seed and a number are drawn. -/
import Derived.Test.YtolpbichkmeaaaaYb
namespace Go.Proofs.Ytolpbichkmeaaaa
open Go.RowKit Go.Maps Go.WideMaps

set_option maxHeartbeats 2000000 in
theorem l1NextBig_any (SB cn cc t : Nat) (ca : Option Addr) (l : List Int) (k : Int) (w v : World) (hk0 : 200 < k) (hk : k ≤ 1000) (ht : t ≤ 1000) (hcn : cn ≤ 1048576) (hB : BAt w ca cn l) (h : Src w v SB ca cn cc t) :
    Calls Try.prog 24 #[.pointer (some ⟨SB, 0, none⟩), .int .i64 k] v fun e v' => ∃ r : Int, e = .returned (.int .i64 r) ∧ (0 ≤ r ∧ r < k) ∧ Src w v' SB ca cn cc (t + 1) ∧ Chg v v' SB (SB + 1) := by
  obtain ⟨c0, c1⟩ := cells2 h.box
  have hn := h.next
  have hc1 : Chg v (v.setCell ⟨SB, 1, none⟩ (.int .i64 ((t : Int) + 1))) SB (SB + 1) := Chg.of_set (Nat.le_refl _) (Nat.lt_succ_self _) _ _
  have f1 : v.frozen? ⟨SB, 1, none⟩ = false := Joins.unfrozen_of_block h.box 1
  obtain ⟨d0, d1⟩ := cells2 hn.box
  have HN : Hid (Src w (v.setCell ⟨SB, 1, none⟩ (.int .i64 ((t : Int) + 1))) SB ca cn cc (t + 1)) := hn
  have HC : Hid (Chg v (v.setCell ⟨SB, 1, none⟩ (.int .i64 ((t : Int) + 1))) SB (SB + 1)) := hc1
  clear hn hc1
  have hti : ((t + 1 : Nat) : Int) = (t : Int) + 1 := by omega
  rw [hti] at d1
  have hk1 : ¬ k < 1 := by omega
  by_cases hc0 : cn = 0
  · subst hc0
    clear hB
    go_enter Try.func24, Try.ntmps24
    go_wp2
    go_ret
    exact ⟨_, rfl, ⟨Int.emod_nonneg _ (by omega), Int.emod_lt_of_pos _ (by omega)⟩, HN.out, HC.out⟩
  · rcases hB.2 with h0 | ⟨b, off, rfl, hbl, hcell⟩
    · exact absurd h0 hc0
    obtain ⟨j, hj, hjl⟩ : ∃ j : Nat, (t : Int).tmod (cn : Int) = (j : Int) ∧ j < cn := ⟨t % cn, by rw [Int.tmod_eq_emod_of_nonneg (by omega)]; omega, Nat.mod_lt _ (by omega)⟩
    obtain ⟨j2, hj2, hjl2⟩ : ∃ j : Nat, ((t : Int) + 1).tmod (cn : Int) = (j : Int) ∧ j < cn := ⟨(t + 1) % cn, by rw [Int.tmod_eq_emod_of_nonneg (by omega), show (t : Int) + 1 = ((t + 1 : Nat) : Int) by omega]; omega, Nat.mod_lt _ (by omega)⟩
    obtain ⟨q, hq, hql⟩ : ∃ q : Nat, (t : Int).tdiv (cn : Int) = (q : Int) ∧ q ≤ t := ⟨t / cn, by rw [Int.tdiv_eq_ediv_of_nonneg (by omega)]; omega, Nat.div_le_self _ _⟩
    have hx := (HN.out.bel.cell (p := ⟨b, off + j, none⟩) hbl).trans (hcell j hjl)
    have hx2 := (HN.out.bel.cell (p := ⟨b, off + j2, none⟩) hbl).trans (hcell j2 hjl2)
    have hrange := hB.1 j
    have hrange2 := hB.1 j2
    obtain ⟨x, hxe⟩ : ∃ x, x = l.getD j 0 := ⟨_, rfl⟩
    obtain ⟨x2, hxe2⟩ : ∃ x, x = l.getD j2 0 := ⟨_, rfl⟩
    rw [← hxe] at hx hrange
    rw [← hxe2] at hx2 hrange2
    have hji : (j : Int) < (cn : Int) := by omega
    have hji2 : (j2 : Int) < (cn : Int) := by omega
    have hcz : (cn : Int) ≠ 0 := by omega
    have w1 : IntKind.i64.wrap ((q : Int) * 37) = (q : Int) * 37 := IntWalk.i64_in _ (by omega)
    have w2 : IntKind.i64.wrap (x + (q : Int) * 37) = x + (q : Int) * 37 := IntWalk.i64_in _ (by omega)
    have w3 : IntKind.i64.wrap ((x + (q : Int) * 37) * 251) = (x + (q : Int) * 37) * 251 := IntWalk.i64_in _ (by omega)
    have w4 : IntKind.i64.wrap (x2 * 13) = x2 * 13 := IntWalk.i64_in _ (by omega)
    have w5 : IntKind.i64.wrap ((x + (q : Int) * 37) * 251 + x2 * 13) = (x + (q : Int) * 37) * 251 + x2 * 13 := IntWalk.i64_in _ (by omega)
    have w6 : IntKind.i64.wrap ((x + (q : Int) * 37) * 251 + x2 * 13 + (t : Int)) = (x + (q : Int) * 37) * 251 + x2 * 13 + (t : Int) := IntWalk.i64_in _ (by omega)
    have w7 : IntKind.i64.wrap ((t : Int) + 1) = (t : Int) + 1 := IntWalk.i64_in _ (by omega)
    clear hcell hxe hxe2 hB
    go_enter Try.func24, Try.ntmps24
    go_wp2
    go_quiet (fail)
    go_wp2
    go_quiet (fail)
    go_wp2
    go_ret
    refine ⟨_, rfl, ⟨Int.emod_nonneg _ (by omega), Int.emod_lt_of_pos _ (by omega)⟩, ?_, ?_⟩
    · first | exact HN.out.step (Joins.below_draws _ _ _) | exact (HN.out.step (Joins.below_draws _ _ _)).step (Joins.below_draws _ _ _)
    · first | exact HC.out.trans (Chg.of_below (Joins.below_draws _ _ _) _ _) | exact (HC.out.trans (Chg.of_below (Joins.below_draws _ _ _) _ _)).trans (Chg.of_below (Joins.below_draws _ _ _) _ _)

theorem iatQ5 (V : World) (a b c d e : Int) : IAt (V.alloc (.cells #[.int .i64 a, .int .i64 b, .int .i64 c, .int .i64 d, .int .i64 e] 2)) (some ⟨V.heap.size, 0, none⟩) 5 [a, b, c, d, e] :=
  ⟨rfl, .inr ⟨V.heap.size, 0, rfl, by simp, fun j hj => by
    have h := heap_alloc_new V (.cells #[.int .i64 a, .int .i64 b, .int .i64 c, .int .i64 d, .int .i64 e] 2)
    match j, hj with
    | 0, _ => unfold World.cell?; rw [h]; rfl
    | 1, _ => unfold World.cell?; rw [h]; rfl
    | 2, _ => unfold World.cell?; rw [h]; rfl
    | 3, _ => unfold World.cell?; rw [h]; rfl
    | 4, _ => unfold World.cell?; rw [h]; rfl⟩⟩
theorem made9 : (madeCells (Value.int .i64 0).cells (9 * 1)).toList = ints (List.replicate 9 0) := by kernel_rfl

/-- Keys and two numbers that were drawn. -/
def OutCh (w w' : World) (e : Ending) : Prop :=
  ∃ (a : Option Addr) (n c : Nat) (ms : List Int) (s k : Int), e = .returned (.tuple #[.slice a n c, .int .i64 s, .int .i64 k]) ∧ n ≤ 9 ∧ Hid (n ≤ c ∧ c ≤ maxLen ∧ IAt w' a n ms) ∧ Hid (Below w.heap.size w w')

theorem row_capsQ {w : World} {base n c g : Nat} {xs : List Value} {e : TypeId} (h : w.ownsRow base e 1 (.slice (some ⟨g, 0, none⟩) n c) n xs) : n ≤ c ∧ c ≤ maxLen := by
  rcases id h.2 with ⟨e, _⟩ | ⟨g', c', cur, e, _, _, k1, k2, _⟩
  · cases e
  · simp at e
    obtain ⟨rfl, rfl⟩ := e
    exact ⟨k1, k2⟩

set_option maxRecDepth 20000 in
set_option maxHeartbeats 4000000 in
/-- The seed and the number are drawn behind the keys. -/
theorem drawCh_any (cn cc : Nat) (ca : Option Addr) (l : List Int) (w : World) (hcn : cn ≤ 1048576) (hB : BAt w ca cn l) :
    Calls Try.prog 6 #[.slice ca cn cc] w fun e w' => OutCh w w' e := by
  have hs := l1Source_any ca cn cc w
  have HB : Hid (BAt w ca cn l) := hB
  obtain ⟨i0, hi, hz0, hz1, hz2⟩ := info_parts Try.infoI64
  clear hB
  go_enter Try.func6, Try.ntmps6
  go_wp2_with (first
    | (go_at_call 22; (with_reducible refine hs.mono ?_); clear hs; rintro e v ⟨rfl, hS⟩; have HSL : Hid (w.heap.size < v.heap.size) := hS.lt; have hx := l1Next_any w.heap.size cn cc 0 ca l 9 w v (by omega) (by omega) hcn HB.out hS; clear hS)
    | (go_at_call 24; have hq := hx; clear hx; (with_reducible refine hq.mono ?_); clear hq; rintro e v1 ⟨r, rfl, ⟨hr0, hr1⟩, hS1, hc1⟩; have hr9 : r < 9 := hr1 (by omega); obtain ⟨m, rfl⟩ := Int.eq_ofNat_of_zero_le hr0; have HC1 : Hid (Chg v v1 w.heap.size (w.heap.size + 1)) := hc1; have hdk := l10DrawKeys_any w.heap.size cn cc (0 + 1) m ca l w v1 (by omega) (by omega) hcn HB.out hS1; clear hS1 hc1 hr1 hr0)
    | (go_at_call 23; (with_reducible refine hdk.mono ?_); clear hdk; rintro e v2 ⟨g, c, ms, rfl, HD⟩; have HD2 : Hid (Dn w v v2 w.heap.size ca cn cc (0 + 1 + m) (some ⟨g, 0, none⟩) m c ms) := HD.out.base HC1.out HSL.out))
  have hx := l1Next_any w.heap.size cn cc (0 + 1 + m) ca l 14 w v2 (by omega) (by omega) hcn HB.out HD2.out.src
  refine hx.mono ?_
  clear hx HC1 HD
  rintro e v4 ⟨r, rfl, _, hS4, hc4⟩
  have HD4 : Hid (Dn w v v4 w.heap.size ca cn cc (0 + 1 + m + 1) (some ⟨g, 0, none⟩) m c ms) := HD2.out.draw hS4 hc4
  clear hS4 hc4 HD2
  by_cases h0 : r = 0
  · subst h0
    have hp := l1Pick_any w.heap.size cn cc (0 + 1 + m + 1) 3 3 ca (some ⟨v4.heap.size, 0, none⟩) l [0, 1, 1000] w (v4.alloc (.cells #[.int .i64 0, .int .i64 1, .int .i64 1000] 2)) (by omega) (by omega) (by omega) hcn HB.out (HD4.out.step (below_box _)).src (iatQ3 _ _ _ _) (fun b o e => by cases e; have := HSL.out; have := HD4.out.chg.size; omega)
    go_wp2_with (first
      | (go_at_call 25; have hq := hp; clear hp; (with_reducible refine hq.mono ?_); clear hq; rintro e v5 ⟨z, rfl, _, hS5, hc5⟩; obtain ⟨g3, c3, v6, hrun, HL5⟩ := ((HD4.out.step (below_box _)).draw hS5 hc5).more (x := z) (by omega); have HD6 : Hid (Dn w v v6 w.heap.size ca cn cc (0 + 1 + m + 1 + 1) (some ⟨g3, 0, none⟩) (m + 1) c3 (ms ++ [z])) := HL5.out.1; have hn1 := l1NextBig_any w.heap.size cn cc (0 + 1 + m + 1 + 1) ca l 999 w v6 (by omega) (by omega) (by omega) hcn HB.out HD6.out.src; clear hS5 hc5)
      | (at_builtin; go_must (refine wpList_append_runC (by rfl) _ _ _ (by rfl) (by rfl) (by rfl) hrun ?_); clear hrun)
      | (go_at_call 24; have hq := hn1; clear hn1; (with_reducible refine hq.mono ?_); clear hq; rintro e v7 ⟨r7, rfl, _, hS7, hc7⟩; have HD7 : Hid (Dn w v v7 w.heap.size ca cn cc (0 + 1 + m + 1 + 1 + 1) (some ⟨g3, 0, none⟩) (m + 1) c3 (ms ++ [z])) := HD6.out.draw hS7 hc7; have hn2 := l1Next_any w.heap.size cn cc (0 + 1 + m + 1 + 1 + 1) ca l 99 w v7 (by omega) (by omega) hcn HB.out HD7.out.src; clear hS7 hc7)
      | (go_at_call 24; have hq := hn2; clear hn2; (with_reducible refine hq.mono ?_); clear hq; rintro e v8 ⟨r8, rfl, _, hS8, hc8⟩; have HD8 : Hid (Dn w v v8 w.heap.size ca cn cc (0 + 1 + m + 1 + 1 + 1 + 1) (some ⟨g3, 0, none⟩) (m + 1) c3 (ms ++ [z])) := HD7.out.draw hS8 hc8; have hp2 := l1Pick_any w.heap.size cn cc (0 + 1 + m + 1 + 1 + 1 + 1) 3 3 ca (some ⟨v8.heap.size, 0, none⟩) l [r7, r8, 65536] w (v8.alloc (.cells #[.int .i64 r7, .int .i64 r8, .int .i64 65536] 2)) (by omega) (by omega) (by omega) hcn HB.out (HD8.out.step (below_box _)).src (iatQ3 _ _ _ _) (fun b o e => (by cases e; have := HSL.out; have := HD8.out.chg.size; omega)); clear hS8 hc8)
      | (go_at_call 25; have hq := hp2; clear hp2; (with_reducible refine hq.mono ?_); clear hq; rintro e v9 ⟨s9, rfl, _, hS9, hc9⟩; have HD9 : Hid (Dn w v v9 w.heap.size ca cn cc (0 + 1 + m + 1 + 1 + 1 + 1 + 1) (some ⟨g3, 0, none⟩) (m + 1) c3 (ms ++ [z])) := (HD8.out.step (below_box _)).draw hS9 hc9; have hn3 := l1Next_any w.heap.size cn cc (0 + 1 + m + 1 + 1 + 1 + 1 + 1) ca l 8 w v9 (by omega) (by omega) hcn HB.out HD9.out.src; clear hS9 hc9)
      | (go_at_call 24; have hq := hn3; clear hn3; (with_reducible refine hq.mono ?_); clear hq; rintro e va ⟨ra, rfl, ⟨hra0, hra1⟩, hSa, hca⟩; have hra8 : ra < 8 := hra1 (by omega); have hwa : IntKind.i64.wrap (1 + ra) = 1 + ra := IntWalk.i64_in _ (by omega); have HDa : Hid (Dn w v va w.heap.size ca cn cc (0 + 1 + m + 1 + 1 + 1 + 1 + 1 + 1) (some ⟨g3, 0, none⟩) (m + 1) c3 (ms ++ [z])) := HD9.out.draw hSa hca; have hp3 := l1Pick_any w.heap.size cn cc (0 + 1 + m + 1 + 1 + 1 + 1 + 1 + 1) 5 5 ca (some ⟨va.heap.size, 0, none⟩) l [1 + ra, 1, 3, 9, 0] w (va.alloc (.cells #[.int .i64 (1 + ra), .int .i64 1, .int .i64 3, .int .i64 9, .int .i64 0] 2)) (by omega) (by omega) (by omega) hcn HB.out (HDa.out.step (below_box _)).src (iatQ5 _ _ _ _ _ _) (fun b o e => (by cases e; have := HSL.out; have := HDa.out.chg.size; omega)); clear hSa hca hra1)
      | (go_at_call 25; have hq := hp3; clear hp3; (with_reducible refine hq.mono ?_); clear hq; rintro e vb ⟨kb, rfl, _, hSb, hcb⟩; have HDb : Hid (Dn w v vb w.heap.size ca cn cc (0 + 1 + m + 1 + 1 + 1 + 1 + 1 + 1 + 1) (some ⟨g3, 0, none⟩) (m + 1) c3 (ms ++ [z])) := (HDa.out.step (below_box _)).draw hSb hcb; clear hSb hcb))
    exact bodyPost_ret (v := .tuple #[.slice (some ⟨g3, 0, none⟩) (m + 1) c3, .int .i64 s9, .int .i64 kb]) (by simp [results, Try.results6, go_sem]) rfl ⟨(some ⟨g3, 0, none⟩), (m + 1), c3, (ms ++ [z]), s9, kb, rfl, by omega, ⟨(row_capsQ HDb.out.row).1, (row_capsQ HDb.out.row).2, HDb.out.at⟩, HDb.out.src.bel⟩
  have h0b : (r == 0) = false := by simpa using h0
  by_cases h1 : r = 1
  · subst h1
    go_wp2_with (first
      | (at_make; refine wpList_make_full _ rfl _ _ 24 rfl v4.heap.size 2 i0 (.int .i64 0) 1 Try.underlying24 hi hz0 hz1 _ _ _ _ 9 rfl rfl (by omega) (by omega) (by rw [hz2]; omega) (by unfold maxLen; omega) (Nat.le_refl _) ?_; intro v6 ho6 hg6; have hb6 : Below v4.heap.size v4 v6 := (Below.refl _ _).grown hg6 (Nat.le_refl _) (fun k h => (by cases h)); rw [made9] at ho6; have hd6 := HD4.out.step hb6; have HD6 : Hid (Dn w v v6 w.heap.size ca cn cc (0 + 1 + m + 1) (some ⟨v4.heap.size, 0, none⟩) 9 9 (List.replicate 9 0)) := ⟨hd6.src, hd6.chg, Joins.ownsRow_le ho6 HD4.out.chg.size, by simp, hd6.sl⟩; have hn1 := l1NextBig_any w.heap.size cn cc (0 + 1 + m + 1) ca l 999 w v6 (by omega) (by omega) (by omega) hcn HB.out HD6.out.src; clear hb6 ho6 hg6 hd6)
      | (go_at_call 24; have hq := hn1; clear hn1; (with_reducible refine hq.mono ?_); clear hq; rintro e v7 ⟨r7, rfl, _, hS7, hc7⟩; have HD7 : Hid (Dn w v v7 w.heap.size ca cn cc (0 + 1 + m + 1 + 1) (some ⟨v4.heap.size, 0, none⟩) 9 9 (List.replicate 9 0)) := HD6.out.draw hS7 hc7; have hn2 := l1Next_any w.heap.size cn cc (0 + 1 + m + 1 + 1) ca l 99 w v7 (by omega) (by omega) hcn HB.out HD7.out.src; clear hS7 hc7)
      | (go_at_call 24; have hq := hn2; clear hn2; (with_reducible refine hq.mono ?_); clear hq; rintro e v8 ⟨r8, rfl, _, hS8, hc8⟩; have HD8 : Hid (Dn w v v8 w.heap.size ca cn cc (0 + 1 + m + 1 + 1 + 1) (some ⟨v4.heap.size, 0, none⟩) 9 9 (List.replicate 9 0)) := HD7.out.draw hS8 hc8; have hp2 := l1Pick_any w.heap.size cn cc (0 + 1 + m + 1 + 1 + 1) 3 3 ca (some ⟨v8.heap.size, 0, none⟩) l [r7, r8, 65536] w (v8.alloc (.cells #[.int .i64 r7, .int .i64 r8, .int .i64 65536] 2)) (by omega) (by omega) (by omega) hcn HB.out (HD8.out.step (below_box _)).src (iatQ3 _ _ _ _) (fun b o e => (by cases e; have := HSL.out; have := HD8.out.chg.size; omega)); clear hS8 hc8)
      | (go_at_call 25; have hq := hp2; clear hp2; (with_reducible refine hq.mono ?_); clear hq; rintro e v9 ⟨s9, rfl, _, hS9, hc9⟩; have HD9 : Hid (Dn w v v9 w.heap.size ca cn cc (0 + 1 + m + 1 + 1 + 1 + 1) (some ⟨v4.heap.size, 0, none⟩) 9 9 (List.replicate 9 0)) := (HD8.out.step (below_box _)).draw hS9 hc9; have hn3 := l1Next_any w.heap.size cn cc (0 + 1 + m + 1 + 1 + 1 + 1) ca l 8 w v9 (by omega) (by omega) hcn HB.out HD9.out.src; clear hS9 hc9)
      | (go_at_call 24; have hq := hn3; clear hn3; (with_reducible refine hq.mono ?_); clear hq; rintro e va ⟨ra, rfl, ⟨hra0, hra1⟩, hSa, hca⟩; have hra8 : ra < 8 := hra1 (by omega); have hwa : IntKind.i64.wrap (1 + ra) = 1 + ra := IntWalk.i64_in _ (by omega); have HDa : Hid (Dn w v va w.heap.size ca cn cc (0 + 1 + m + 1 + 1 + 1 + 1 + 1) (some ⟨v4.heap.size, 0, none⟩) 9 9 (List.replicate 9 0)) := HD9.out.draw hSa hca; have hp3 := l1Pick_any w.heap.size cn cc (0 + 1 + m + 1 + 1 + 1 + 1 + 1) 5 5 ca (some ⟨va.heap.size, 0, none⟩) l [1 + ra, 1, 3, 9, 0] w (va.alloc (.cells #[.int .i64 (1 + ra), .int .i64 1, .int .i64 3, .int .i64 9, .int .i64 0] 2)) (by omega) (by omega) (by omega) hcn HB.out (HDa.out.step (below_box _)).src (iatQ5 _ _ _ _ _ _) (fun b o e => (by cases e; have := HSL.out; have := HDa.out.chg.size; omega)); clear hSa hca hra1)
      | (go_at_call 25; have hq := hp3; clear hp3; (with_reducible refine hq.mono ?_); clear hq; rintro e vb ⟨kb, rfl, _, hSb, hcb⟩; have HDb : Hid (Dn w v vb w.heap.size ca cn cc (0 + 1 + m + 1 + 1 + 1 + 1 + 1 + 1) (some ⟨v4.heap.size, 0, none⟩) 9 9 (List.replicate 9 0)) := (HDa.out.step (below_box _)).draw hSb hcb; clear hSb hcb))
    exact bodyPost_ret (v := .tuple #[.slice (some ⟨v4.heap.size, 0, none⟩) 9 9, .int .i64 s9, .int .i64 kb]) (by simp [results, Try.results6, go_sem]) rfl ⟨(some ⟨v4.heap.size, 0, none⟩), 9, 9, (List.replicate 9 0), s9, kb, rfl, by omega, ⟨(row_capsQ HDb.out.row).1, (row_capsQ HDb.out.row).2, HDb.out.at⟩, HDb.out.src.bel⟩
  have h1b : (r == 1) = false := by simpa using h1
  have HD6 : Hid (Dn w v v4 w.heap.size ca cn cc (0 + 1 + m + 1) (some ⟨g, 0, none⟩) m c ms) := HD4
  have hn1 := l1NextBig_any w.heap.size cn cc (0 + 1 + m + 1) ca l 999 w v4 (by omega) (by omega) (by omega) hcn HB.out HD6.out.src
  go_wp2_with (first
      | (go_at_call 24; have hq := hn1; clear hn1; (with_reducible refine hq.mono ?_); clear hq; rintro e v7 ⟨r7, rfl, _, hS7, hc7⟩; have HD7 : Hid (Dn w v v7 w.heap.size ca cn cc (0 + 1 + m + 1 + 1) (some ⟨g, 0, none⟩) m c ms) := HD6.out.draw hS7 hc7; have hn2 := l1Next_any w.heap.size cn cc (0 + 1 + m + 1 + 1) ca l 99 w v7 (by omega) (by omega) hcn HB.out HD7.out.src; clear hS7 hc7)
      | (go_at_call 24; have hq := hn2; clear hn2; (with_reducible refine hq.mono ?_); clear hq; rintro e v8 ⟨r8, rfl, _, hS8, hc8⟩; have HD8 : Hid (Dn w v v8 w.heap.size ca cn cc (0 + 1 + m + 1 + 1 + 1) (some ⟨g, 0, none⟩) m c ms) := HD7.out.draw hS8 hc8; have hp2 := l1Pick_any w.heap.size cn cc (0 + 1 + m + 1 + 1 + 1) 3 3 ca (some ⟨v8.heap.size, 0, none⟩) l [r7, r8, 65536] w (v8.alloc (.cells #[.int .i64 r7, .int .i64 r8, .int .i64 65536] 2)) (by omega) (by omega) (by omega) hcn HB.out (HD8.out.step (below_box _)).src (iatQ3 _ _ _ _) (fun b o e => (by cases e; have := HSL.out; have := HD8.out.chg.size; omega)); clear hS8 hc8)
      | (go_at_call 25; have hq := hp2; clear hp2; (with_reducible refine hq.mono ?_); clear hq; rintro e v9 ⟨s9, rfl, _, hS9, hc9⟩; have HD9 : Hid (Dn w v v9 w.heap.size ca cn cc (0 + 1 + m + 1 + 1 + 1 + 1) (some ⟨g, 0, none⟩) m c ms) := (HD8.out.step (below_box _)).draw hS9 hc9; have hn3 := l1Next_any w.heap.size cn cc (0 + 1 + m + 1 + 1 + 1 + 1) ca l 8 w v9 (by omega) (by omega) hcn HB.out HD9.out.src; clear hS9 hc9)
      | (go_at_call 24; have hq := hn3; clear hn3; (with_reducible refine hq.mono ?_); clear hq; rintro e va ⟨ra, rfl, ⟨hra0, hra1⟩, hSa, hca⟩; have hra8 : ra < 8 := hra1 (by omega); have hwa : IntKind.i64.wrap (1 + ra) = 1 + ra := IntWalk.i64_in _ (by omega); have HDa : Hid (Dn w v va w.heap.size ca cn cc (0 + 1 + m + 1 + 1 + 1 + 1 + 1) (some ⟨g, 0, none⟩) m c ms) := HD9.out.draw hSa hca; have hp3 := l1Pick_any w.heap.size cn cc (0 + 1 + m + 1 + 1 + 1 + 1 + 1) 5 5 ca (some ⟨va.heap.size, 0, none⟩) l [1 + ra, 1, 3, 9, 0] w (va.alloc (.cells #[.int .i64 (1 + ra), .int .i64 1, .int .i64 3, .int .i64 9, .int .i64 0] 2)) (by omega) (by omega) (by omega) hcn HB.out (HDa.out.step (below_box _)).src (iatQ5 _ _ _ _ _ _) (fun b o e => (by cases e; have := HSL.out; have := HDa.out.chg.size; omega)); clear hSa hca hra1)
      | (go_at_call 25; have hq := hp3; clear hp3; (with_reducible refine hq.mono ?_); clear hq; rintro e vb ⟨kb, rfl, _, hSb, hcb⟩; have HDb : Hid (Dn w v vb w.heap.size ca cn cc (0 + 1 + m + 1 + 1 + 1 + 1 + 1 + 1) (some ⟨g, 0, none⟩) m c ms) := (HDa.out.step (below_box _)).draw hSb hcb; clear hSb hcb))
  exact bodyPost_ret (v := .tuple #[.slice (some ⟨g, 0, none⟩) m c, .int .i64 s9, .int .i64 kb]) (by simp [results, Try.results6, go_sem]) rfl ⟨(some ⟨g, 0, none⟩), m, c, ms, s9, kb, rfl, by omega, ⟨(row_capsQ HDb.out.row).1, (row_capsQ HDb.out.row).2, HDb.out.at⟩, HDb.out.src.bel⟩

end Go.Proofs.Ytolpbichkmeaaaa
