/- Coins that are bent: the specification's draw. -/
import Derived.Test.YtdfijlcjmllplaaOj
namespace Go.Proofs.Ytdfijlcjmllplaa
open Go.RowKit Go.Shelf Go.Maps Go.WideMaps

/-- Coins that were bent. -/
def OutBc (w v : World) (SB : Nat) (ca : Option Addr) (cn cc T : Nat) (e : Ending) (v' : World) : Prop :=
  ∃ (cs : List Co) (va : Option Addr) (n vc t' : Nat), e = .returned (.slice va n vc) ∧ n = cs.length ∧ t' ≤ T ∧ Hid (DbC w v v' SB ca cn cc t' va cs)

set_option maxRecDepth 20000 in
set_option maxHeartbeats 8000000 in
theorem l4Bent_any (SB cn cc t : Nat) (ca : Option Addr) (l0 : List Int) (w v : World) (ht : t ≤ 500) (hcn : cn ≤ 1048576) (hB : BAt w ca cn l0) (h : Src w v SB ca cn cc t) :
    Calls Try.prog 16 #[.pointer (some ⟨SB, 0, none⟩)] v fun e v' => OutBc w v SB ca cn cc (t + 144) e v' := by
  have HBA : Hid (BAt w ca cn l0) := hB
  have hlt := h.lt
  have hr := l4Right_any SB cn cc t ca l0 w v (by omega) hcn hB h
  obtain ⟨i0, hi, hz0, hz1, hz2⟩ := info_parts Try.infoCoin
  clear hB h
  go_enter Try.func16, Try.ntmps16
  go_wp2_with fail
  refine hr.mono ?_
  rintro e v2 ⟨cs, va, m, vc, t2, rfl, hm, ht2, HD2⟩
  have HM : Hid (m = cs.length) := hm
  have hml : m ≤ 42 := by rw [hm]; exact HD2.out.len.1
  clear hm hr
  by_cases hn : 0 < m
  · have hni : 0 < (m : Int) := by omega
    have hnn : 0 < cs.length := by rw [← HM.out]; exact hn
    obtain ⟨g, rfl⟩ := HD2.out.form hnn
    have hx := l1Next_any SB cn cc t2 ca l0 14 w v2 (by omega) (by omega) hcn HBA.out HD2.out.src
    go_wp2_with fail
    refine hx.mono ?_
    rintro e v3 ⟨r3, rfl, ⟨a3, b3⟩, hS3, hc3⟩
    have HD3 : Hid (DcS w v v3 SB ca cn cc (t2 + 1) (some ⟨g, 0, none⟩) vc cs) := HD2.out.draw hS3 hc3
    obtain ⟨c, ka, kc, hc, hC, f0, f2, f6⟩ := HD3.out.cells0 hnn
    have HC0 : Hid (c = cs.getD 0 C0) := hc
    clear hc
    obtain ⟨y0, y1, y2, y3, y4, y5, y6, y7⟩ := hC
    simp only [Nat.zero_add] at y0 y1 y2 y3 y4 y5 y6 y7
    have hgl : v.heap.size ≤ g ∧ g < v3.heap.size := by
      obtain ⟨kv, hk⟩ := HD3.out.own
      obtain ⟨xs, h1, _⟩ := hk.row
      exact h1.lt g rfl
    clear hS3 hc3 hx HD2
    by_cases h0 : r3 = 0
    · subst h0
      have hp := l1Pick_any SB cn cc (t2 + 1) 3 3 ca (some ⟨v3.heap.size, 0, none⟩) l0 [0, 61, 3] w (v3.alloc (.cells #[.int .i64 0, .int .i64 61, .int .i64 3] 2)) (by omega) (by omega) (by omega) hcn HBA.out (HD3.out.step (below_box _)).src (iat3 _ _ _ _) (fun b o e => by cases e; have := HD3.out.chg.size; omega)
      go_wp2_with (first
        | (go_at_call 19; have hq := hp; clear hp; (with_reducible refine hq.mono ?_); clear hq; rintro e v5 ⟨z, rfl, _, hS5, hc5⟩; have HD5 : Hid (DcS w v v5 SB ca cn cc (t2 + 1 + 1) (some ⟨g, 0, none⟩) vc cs) := (HD3.out.step (below_box _)).draw hS5 hc5; obtain ⟨c5, ka5, kc5, hcc5, hC5, g0, g2, g6⟩ := HD5.out.cells0 hnn; clear hcc5; obtain ⟨x0, x1, x2, x3, x4, x5, x6, x7⟩ := hC5; simp only [Nat.zero_add] at x0 x1 x2 x3 x4 x5 x6 x7; have HD6 : Hid (DcS w v (v5.setCell ⟨g, 0, none⟩ (.int .i64 z)) SB ca cn cc (t2 + 1 + 1) (some ⟨g, 0, none⟩) vc (cs.set 0 { cs.getD 0 C0 with p := z })) := HD5.out.set_p hnn z; have hch := l1Chance_any SB cn cc (t2 + 1 + 1) ca l0 40 w (v5.setCell ⟨g, 0, none⟩ (.int .i64 z)) (by omega) (by omega) hcn HBA.out HD6.out.src; clear hS5 hc5)
        | (go_at_call 21; have hq := hch; clear hch; (with_reducible refine hq.mono ?_); clear hq; rintro e v9 ⟨r9, rfl, hS9, hc9⟩; have HE9 : Hid (DbC w v v9 SB ca cn cc (t2 + 1 + 1 + 1) (some ⟨g, 0, none⟩) (cs.set 0 { cs.getD 0 C0 with p := z })) := HD6.out.db.draw hS9 hc9; clear hS9 hc9)
        | (at_make; refine wpList_make_full _ rfl _ _ 24 rfl v9.heap.size 41 i0 (.agg #[.int .i64 0, .int .i64 0, .int .i64 0, .slice none 0 0, .int .i64 0, .int .i64 0, .int .i64 0, .bool false]) 8 Try.underlying24 hi hz0 hz1 _ _ _ _ 41 rfl rfl (by omega) (by omega) (by rw [hz2]; omega) (by unfold maxLen; omega) (Nat.le_refl _) ?_; intro va ho6 hg6; have HEa : Hid (DbC w v va SB ca cn cc (t2 + 1 + 1 + 1) (some ⟨v9.heap.size, 0, none⟩) (List.replicate 41 C0)) := made41 HE9.out.src HE9.out.chg HE9.out.ord ho6 ((Below.refl _ _).grown hg6 (Nat.le_refl _) (fun k h => (by cases h))); clear ho6 hg6))
      · go_ret
        exact ⟨List.replicate 41 C0, _, 41, 41, t2 + 1 + 1 + 1, rfl, by rw [List.length_replicate], by omega, HEa.out⟩
      · go_ret
        exact ⟨cs.set 0 { cs.getD 0 C0 with p := z }, _, m, vc, t2 + 1 + 1 + 1, rfl, by rw [List.length_set]; exact HM.out, by omega, HE9.out⟩
    have h0b : (r3 == 0) = false := by simpa using h0
    by_cases h1 : r3 = 1
    · subst h1
      have hp := l1Pick_any SB cn cc (t2 + 1) 2 2 ca (some ⟨v3.heap.size, 0, none⟩) l0 [-1, 1000] w (v3.alloc (.cells #[.int .i64 (-1), .int .i64 1000] 2)) (by omega) (by omega) (by omega) hcn HBA.out (HD3.out.step (below_box _)).src (iat2 _ _ _) (fun b o e => by cases e; have := HD3.out.chg.size; omega)
      go_wp2_with (first
        | (go_at_call 19; have hq := hp; clear hp; (with_reducible refine hq.mono ?_); clear hq; rintro e v5 ⟨z, rfl, _, hS5, hc5⟩; have HD5 : Hid (DcS w v v5 SB ca cn cc (t2 + 1 + 1) (some ⟨g, 0, none⟩) vc cs) := (HD3.out.step (below_box _)).draw hS5 hc5; obtain ⟨c5, ka5, kc5, hcc5, hC5, g0, g2, g6⟩ := HD5.out.cells0 hnn; clear hcc5; obtain ⟨x0, x1, x2, x3, x4, x5, x6, x7⟩ := hC5; simp only [Nat.zero_add] at x0 x1 x2 x3 x4 x5 x6 x7; have HD6 : Hid (DcS w v (v5.setCell ⟨g, 6, none⟩ (.int .i64 z)) SB ca cn cc (t2 + 1 + 1) (some ⟨g, 0, none⟩) vc (cs.set 0 { cs.getD 0 C0 with h := z })) := HD5.out.set_h hnn z; have hch := l1Chance_any SB cn cc (t2 + 1 + 1) ca l0 40 w (v5.setCell ⟨g, 6, none⟩ (.int .i64 z)) (by omega) (by omega) hcn HBA.out HD6.out.src; clear hS5 hc5)
        | (go_at_call 21; have hq := hch; clear hch; (with_reducible refine hq.mono ?_); clear hq; rintro e v9 ⟨r9, rfl, hS9, hc9⟩; have HE9 : Hid (DbC w v v9 SB ca cn cc (t2 + 1 + 1 + 1) (some ⟨g, 0, none⟩) (cs.set 0 { cs.getD 0 C0 with h := z })) := HD6.out.db.draw hS9 hc9; clear hS9 hc9)
        | (at_make; refine wpList_make_full _ rfl _ _ 24 rfl v9.heap.size 41 i0 (.agg #[.int .i64 0, .int .i64 0, .int .i64 0, .slice none 0 0, .int .i64 0, .int .i64 0, .int .i64 0, .bool false]) 8 Try.underlying24 hi hz0 hz1 _ _ _ _ 41 rfl rfl (by omega) (by omega) (by rw [hz2]; omega) (by unfold maxLen; omega) (Nat.le_refl _) ?_; intro va ho6 hg6; have HEa : Hid (DbC w v va SB ca cn cc (t2 + 1 + 1 + 1) (some ⟨v9.heap.size, 0, none⟩) (List.replicate 41 C0)) := made41 HE9.out.src HE9.out.chg HE9.out.ord ho6 ((Below.refl _ _).grown hg6 (Nat.le_refl _) (fun k h => (by cases h))); clear ho6 hg6))
      · go_ret
        exact ⟨List.replicate 41 C0, _, 41, 41, t2 + 1 + 1 + 1, rfl, by rw [List.length_replicate], by omega, HEa.out⟩
      · go_ret
        exact ⟨cs.set 0 { cs.getD 0 C0 with h := z }, _, m, vc, t2 + 1 + 1 + 1, rfl, by rw [List.length_set]; exact HM.out, by omega, HE9.out⟩
    have h1b : (r3 == 1) = false := by simpa using h1
    by_cases h2 : r3 = 2
    · subst h2
      have HD6 : Hid (DcS w v (v3.setCell ⟨g, 2, none⟩ (.int .i64 0)) SB ca cn cc (t2 + 1) (some ⟨g, 0, none⟩) vc (cs.set 0 { cs.getD 0 C0 with v := 0 })) := HD3.out.set_v hnn 0
      have hch := l1Chance_any SB cn cc (t2 + 1) ca l0 40 w (v3.setCell ⟨g, 2, none⟩ (.int .i64 0)) (by omega) (by omega) hcn HBA.out HD6.out.src
      go_wp2_with (first
        | (go_at_call 21; have hq := hch; clear hch; (with_reducible refine hq.mono ?_); clear hq; rintro e v9 ⟨r9, rfl, hS9, hc9⟩; have HE9 : Hid (DbC w v v9 SB ca cn cc (t2 + 1 + 1) (some ⟨g, 0, none⟩) (cs.set 0 { cs.getD 0 C0 with v := 0 })) := HD6.out.db.draw hS9 hc9; clear hS9 hc9)
        | (at_make; refine wpList_make_full _ rfl _ _ 24 rfl v9.heap.size 41 i0 (.agg #[.int .i64 0, .int .i64 0, .int .i64 0, .slice none 0 0, .int .i64 0, .int .i64 0, .int .i64 0, .bool false]) 8 Try.underlying24 hi hz0 hz1 _ _ _ _ 41 rfl rfl (by omega) (by omega) (by rw [hz2]; omega) (by unfold maxLen; omega) (Nat.le_refl _) ?_; intro va ho6 hg6; have HEa : Hid (DbC w v va SB ca cn cc (t2 + 1 + 1) (some ⟨v9.heap.size, 0, none⟩) (List.replicate 41 C0)) := made41 HE9.out.src HE9.out.chg HE9.out.ord ho6 ((Below.refl _ _).grown hg6 (Nat.le_refl _) (fun k h => (by cases h))); clear ho6 hg6))
      · go_ret
        exact ⟨List.replicate 41 C0, _, 41, 41, t2 + 1 + 1, rfl, by rw [List.length_replicate], by omega, HEa.out⟩
      · go_ret
        exact ⟨cs.set 0 { cs.getD 0 C0 with v := 0 }, _, m, vc, t2 + 1 + 1, rfl, by rw [List.length_set]; exact HM.out, by omega, HE9.out⟩
    have h2b : (r3 == 2) = false := by simpa using h2
    by_cases h3 : r3 = 3
    · subst h3
      obtain ⟨g5, c5, v5, hrun, HD5⟩ := HD3.out.dup hnn HC0.out ⟨y0, y1, y2, y3, y4, y5, y6, y7⟩
      rw [← HM.out] at hrun
      have hch := l1Chance_any SB cn cc (t2 + 1) ca l0 40 w v5 (by omega) (by omega) hcn HBA.out HD5.out.src
      go_wp2_with (first
        | (at_builtin; go_must (refine wpList_append_runC (by rfl) _ _ _ (by rfl) (by rfl) (by rfl) hrun ?_); clear hrun)
        | (go_at_call 21; have hq := hch; clear hch; (with_reducible refine hq.mono ?_); clear hq; rintro e v9 ⟨r9, rfl, hS9, hc9⟩; have HE9 : Hid (DbC w v v9 SB ca cn cc (t2 + 1 + 1) (some ⟨g5, 0, none⟩) (cs ++ [c])) := HD5.out.draw hS9 hc9; clear hS9 hc9)
        | (at_make; refine wpList_make_full _ rfl _ _ 24 rfl v9.heap.size 41 i0 (.agg #[.int .i64 0, .int .i64 0, .int .i64 0, .slice none 0 0, .int .i64 0, .int .i64 0, .int .i64 0, .bool false]) 8 Try.underlying24 hi hz0 hz1 _ _ _ _ 41 rfl rfl (by omega) (by omega) (by rw [hz2]; omega) (by unfold maxLen; omega) (Nat.le_refl _) ?_; intro va ho6 hg6; have HEa : Hid (DbC w v va SB ca cn cc (t2 + 1 + 1) (some ⟨v9.heap.size, 0, none⟩) (List.replicate 41 C0)) := made41 HE9.out.src HE9.out.chg HE9.out.ord ho6 ((Below.refl _ _).grown hg6 (Nat.le_refl _) (fun k h => (by cases h))); clear ho6 hg6))
      · go_ret
        exact ⟨List.replicate 41 C0, _, 41, 41, t2 + 1 + 1, rfl, by rw [List.length_replicate], by omega, HEa.out⟩
      · go_ret
        exact ⟨cs ++ [c], _, m + 1, c5, t2 + 1 + 1, rfl, by rw [List.length_append, HM.out]; rfl, by omega, HE9.out⟩
    have h3b : (r3 == 3) = false := by simpa using h3
    have hch := l1Chance_any SB cn cc (t2 + 1) ca l0 40 w v3 (by omega) (by omega) hcn HBA.out HD3.out.src
    go_wp2_with (first
      | (go_at_call 21; have hq := hch; clear hch; (with_reducible refine hq.mono ?_); clear hq; rintro e v9 ⟨r9, rfl, hS9, hc9⟩; have HE9 : Hid (DbC w v v9 SB ca cn cc (t2 + 1 + 1) (some ⟨g, 0, none⟩) cs) := HD3.out.db.draw hS9 hc9; clear hS9 hc9)
      | (at_make; refine wpList_make_full _ rfl _ _ 24 rfl v9.heap.size 41 i0 (.agg #[.int .i64 0, .int .i64 0, .int .i64 0, .slice none 0 0, .int .i64 0, .int .i64 0, .int .i64 0, .bool false]) 8 Try.underlying24 hi hz0 hz1 _ _ _ _ 41 rfl rfl (by omega) (by omega) (by rw [hz2]; omega) (by unfold maxLen; omega) (Nat.le_refl _) ?_; intro va ho6 hg6; have HEa : Hid (DbC w v va SB ca cn cc (t2 + 1 + 1) (some ⟨v9.heap.size, 0, none⟩) (List.replicate 41 C0)) := made41 HE9.out.src HE9.out.chg HE9.out.ord ho6 ((Below.refl _ _).grown hg6 (Nat.le_refl _) (fun k h => (by cases h))); clear ho6 hg6))
    · go_ret
      exact ⟨List.replicate 41 C0, _, 41, 41, t2 + 1 + 1, rfl, by rw [List.length_replicate], by omega, HEa.out⟩
    · go_ret
      exact ⟨cs, _, m, vc, t2 + 1 + 1, rfl, HM.out, by omega, HE9.out⟩
  · have hni : ¬ 0 < (m : Int) := by omega
    have hch := l1Chance_any SB cn cc t2 ca l0 40 w v2 (by omega) (by omega) hcn HBA.out HD2.out.src
    go_wp2_with (first
      | (go_at_call 21; have hq := hch; clear hch; (with_reducible refine hq.mono ?_); clear hq; rintro e v9 ⟨r9, rfl, hS9, hc9⟩; have HE9 : Hid (DbC w v v9 SB ca cn cc (t2 + 1) va cs) := HD2.out.db.draw hS9 hc9; clear hS9 hc9)
      | (at_make; refine wpList_make_full _ rfl _ _ 24 rfl v9.heap.size 41 i0 (.agg #[.int .i64 0, .int .i64 0, .int .i64 0, .slice none 0 0, .int .i64 0, .int .i64 0, .int .i64 0, .bool false]) 8 Try.underlying24 hi hz0 hz1 _ _ _ _ 41 rfl rfl (by omega) (by omega) (by rw [hz2]; omega) (by unfold maxLen; omega) (Nat.le_refl _) ?_; intro vz ho6 hg6; have HEa : Hid (DbC w v vz SB ca cn cc (t2 + 1) (some ⟨v9.heap.size, 0, none⟩) (List.replicate 41 C0)) := made41 HE9.out.src HE9.out.chg HE9.out.ord ho6 ((Below.refl _ _).grown hg6 (Nat.le_refl _) (fun k h => (by cases h))); clear ho6 hg6))
    · go_ret
      exact ⟨List.replicate 41 C0, _, 41, 41, t2 + 1, rfl, by rw [List.length_replicate], by omega, HEa.out⟩
    · go_ret
      exact ⟨cs, _, m, vc, t2 + 1, rfl, HM.out, by omega, HE9.out⟩

end Go.Proofs.Ytdfijlcjmllplaa
