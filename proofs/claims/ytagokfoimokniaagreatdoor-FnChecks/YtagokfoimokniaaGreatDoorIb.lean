/- Coins that are bent: the specification's draw. -/
import Derived.Test.YtagokfoimokniaaGreatDoorOj
namespace Go.Proofs.YtagokfoimokniaaGreatDoor
open Go.RowKit Go.Shelf Go.Maps Go.WideMaps

/-- Coins that were bent: in memory of their own, or with one twice. -/
structure DbU (w v V : World) (SB : Nat) (ca : Option Addr) (cn cc t : Nat) (va : Option Addr) (vc : Nat) (cs : List Co) : Prop where
  or : DcS w v V SB ca cn cc t va vc cs ∨ (DbC w v V SB ca cn cc t va cs ∧ ∃ cs0 : List Co, 0 < cs0.length ∧ cs = cs0 ++ [cs0.getD 0 C0])
section
variable {w v V V' : World} {SB cn cc t t' vc g : Nat} {ca va : Option Addr} {cs : List Co}
theorem DcS.du (h : DcS w v V SB ca cn cc t va vc cs) : DbU w v V SB ca cn cc t va vc cs := ⟨.inl h⟩
theorem DbU.draw (h : DbU w v V SB ca cn cc t va vc cs) (hS : Src w V' SB ca cn cc t') (hc : Chg V V' SB (SB + 1)) : DbU w v V' SB ca cn cc t' va vc cs :=
  ⟨h.or.elim (fun q => .inl (q.draw hS hc)) fun ⟨q, r⟩ => .inr ⟨q.draw hS hc, r⟩⟩
theorem DbU.db (h : DbU w v V SB ca cn cc t va vc cs) : DbC w v V SB ca cn cc t va cs := h.or.elim (fun q => q.db) fun q => q.1
theorem DbU.src (h : DbU w v V SB ca cn cc t va vc cs) : Src w V SB ca cn cc t := h.db.src
theorem DbU.chg (h : DbU w v V SB ca cn cc t va vc cs) : Chg v V SB (SB + 1) := h.db.chg
theorem DbU.ord (h : DbU w v V SB ca cn cc t va vc cs) : SB < v.heap.size := h.db.ord
end
theorem made41U {w v V V' : World} {SB cn cc t g : Nat} {ca : Option Addr} (hS : Src w V SB ca cn cc t) (hc : Chg v V SB (SB + 1)) (ho : SB < v.heap.size) (hrow : V'.ownsRow V.heap.size 54 8 (.slice (some ⟨g, 0, none⟩) 41 41) 41 (madeCells (Value.agg #[.int .i64 0, .int .i64 0, .int .i64 0, .slice none 0 0, .int .i64 0, .int .i64 0, .int .i64 0, .bool false]).cells (41 * 8)).toList) (hb : Below V.heap.size V V') : DbU w v V' SB ca cn cc t (some ⟨g, 0, none⟩) 41 (List.replicate 41 C0) := by
  have hvs := hc.size
  refine DcS.du ⟨hS.step hb, hc.trans (Chg.of_below hb _ _), ⟨fun _ => .slice none 0 0, ?_⟩, ⟨by simp, fun j hj => ?_⟩, ho⟩
  · rw [List.length_replicate]
    refine ⟨⟨_, Joins.ownsRow_le hrow hvs, fun j hj => ?_⟩, fun b hb => (hrow.lt b hb).2, fun j hj => ?_, fun i j _ _ b hb => by cases hb⟩
    · show CellsC _ j ((List.replicate 41 C0).getD j C0) _
      rw [rep_getD hj]
      have hm : ∀ i, i < 8 → (madeCells (Value.agg #[.int .i64 0, .int .i64 0, .int .i64 0, .slice none 0 0, .int .i64 0, .int .i64 0, .int .i64 0, .bool false]).cells (41 * 8)).toList[j * 8 + i]? = some (#[Value.int .i64 0, .int .i64 0, .int .i64 0, .slice none 0 0, .int .i64 0, .int .i64 0, .int .i64 0, .bool false][i]!) := fun i hi => by
        have e1 : (Value.agg #[.int .i64 0, .int .i64 0, .int .i64 0, .slice none 0 0, .int .i64 0, .int .i64 0, .int .i64 0, .bool false]).cells = #[Value.int .i64 0, .int .i64 0, .int .i64 0, .slice none 0 0, .int .i64 0, .int .i64 0, .int .i64 0, .bool false] := rfl
        rw [e1]
        have e2 : (j * 8 + i) % 8 = i := by omega
        have e3 : j * 8 + i < 328 := by omega
        simp [madeCells, e2, e3]
      exact ⟨hm 0 (by omega), hm 1 (by omega), hm 2 (by omega), hm 3 (by omega), hm 4 (by omega), hm 5 (by omega), hm 6 (by omega), hm 7 (by omega)⟩
    · show World.ownsRow _ _ _ _ _ ((List.replicate 41 C0).getD j C0).l.length (ints ((List.replicate 41 C0).getD j C0).l) ∧ _
      rw [rep_getD hj]
      exact ⟨World.ownsRow_nil _ _ _ _, fun b hb => by cases hb⟩
  · rw [List.length_replicate] at hj
    rw [rep_getD hj]; exact Nat.zero_le _
/-- Coins that were bent. -/
def OutBu (w v : World) (SB : Nat) (ca : Option Addr) (cn cc T : Nat) (e : Ending) (v' : World) : Prop :=
  ∃ (cs : List Co) (va : Option Addr) (n vc t' : Nat), e = .returned (.slice va n vc) ∧ n = cs.length ∧ t' ≤ T ∧ Hid (DbU w v v' SB ca cn cc t' va vc cs)

set_option maxRecDepth 20000 in
set_option maxHeartbeats 8000000 in
theorem l4BentU_any (SB cn cc t : Nat) (ca : Option Addr) (l0 : List Int) (w v : World) (ht : t ≤ 500) (hcn : cn ≤ 1048577) (hB : BAt w ca cn l0) (h : Src w v SB ca cn cc t) :
    Calls Tryz.prog 20 #[.pointer (some ⟨SB, 0, none⟩)] v fun e v' => OutBu w v SB ca cn cc (t + 144) e v' := by
  have HBA : Hid (BAt w ca cn l0) := hB
  have hlt := h.lt
  have hr := l4Right_any SB cn cc t ca l0 w v (by omega) hcn hB h
  obtain ⟨i0, hi, hz0, hz1, hz2⟩ := info_parts Tryz.infoCoin
  clear hB h
  go_enter Tryz.func20, Tryz.ntmps20
  go_wp2_with fail
  refine hr.mono ?_
  rintro e v2 ⟨cs, va, m, vc, t2, rfl, hm, ht2, HD2⟩
  have HM : Hid (m = cs.length) := hm
  have hml : m ≤ 42 := by rw [hm]; exact HD2.out.len.1
  clear hm hr
  by_cases hn : 0 < m
  · have hni : 0 < (m : Int) := by omega
    have hnn : 0 < cs.length := by rw [← HM.out]; exact hn
    obtain ⟨g, rfl⟩ := HD2.out.form hnn
    have hx := l1Next_any SB cn cc t2 ca l0 14 w v2 (by omega) (by omega) hcn HBA.out HD2.out.src
    go_wp2_with fail
    refine hx.mono ?_
    rintro e v3 ⟨r3, rfl, ⟨a3, b3⟩, hS3, hc3⟩
    have HD3 : Hid (DcS w v v3 SB ca cn cc (t2 + 1) (some ⟨g, 0, none⟩) vc cs) := HD2.out.draw hS3 hc3
    obtain ⟨c, ka, kc, hc, hC, f0, f2, f6⟩ := HD3.out.cells0 hnn
    have HC0 : Hid (c = cs.getD 0 C0) := hc
    clear hc
    obtain ⟨y0, y1, y2, y3, y4, y5, y6, y7⟩ := hC
    simp only [Nat.zero_add] at y0 y1 y2 y3 y4 y5 y6 y7
    have hgl : v.heap.size ≤ g ∧ g < v3.heap.size := by
      obtain ⟨kv, hk⟩ := HD3.out.own
      obtain ⟨xs, h1, _⟩ := hk.row
      exact h1.lt g rfl
    clear hS3 hc3 hx HD2
    by_cases h0 : r3 = 0
    · subst h0
      have hp := l1Pick_any SB cn cc (t2 + 1) 3 3 ca (some ⟨v3.heap.size, 0, none⟩) l0 [0, 61, 3] w (v3.alloc (.cells #[.int .i64 0, .int .i64 61, .int .i64 3] 2)) (by omega) (by omega) (by omega) hcn HBA.out (HD3.out.step (below_box _)).src (iat3 _ _ _ _) (fun b o e => by cases e; have := HD3.out.chg.size; omega)
      go_wp2_with (first
        | (go_at_call 22; have hq := hp; clear hp; (with_reducible refine hq.mono ?_); clear hq; rintro e v5 ⟨z, rfl, _, hS5, hc5⟩; have HD5 : Hid (DcS w v v5 SB ca cn cc (t2 + 1 + 1) (some ⟨g, 0, none⟩) vc cs) := (HD3.out.step (below_box _)).draw hS5 hc5; obtain ⟨c5, ka5, kc5, hcc5, hC5, g0, g2, g6⟩ := HD5.out.cells0 hnn; clear hcc5; obtain ⟨x0, x1, x2, x3, x4, x5, x6, x7⟩ := hC5; simp only [Nat.zero_add] at x0 x1 x2 x3 x4 x5 x6 x7; have HD6 : Hid (DcS w v (v5.setCell ⟨g, 0, none⟩ (.int .i64 z)) SB ca cn cc (t2 + 1 + 1) (some ⟨g, 0, none⟩) vc (cs.set 0 { cs.getD 0 C0 with p := z })) := HD5.out.set_p hnn z; have hch := l1Chance_any SB cn cc (t2 + 1 + 1) ca l0 40 w (v5.setCell ⟨g, 0, none⟩ (.int .i64 z)) (by omega) (by omega) hcn HBA.out HD6.out.src; clear hS5 hc5)
        | (go_at_call 49; have hq := hch; clear hch; (with_reducible refine hq.mono ?_); clear hq; rintro e v9 ⟨r9, rfl, hS9, hc9⟩; have HE9 : Hid (DbU w v v9 SB ca cn cc (t2 + 1 + 1 + 1) (some ⟨g, 0, none⟩) vc (cs.set 0 { cs.getD 0 C0 with p := z })) := HD6.out.du.draw hS9 hc9; clear hS9 hc9)
        | (at_make; refine wpList_make_full _ rfl _ _ 28 rfl v9.heap.size 54 i0 (.agg #[.int .i64 0, .int .i64 0, .int .i64 0, .slice none 0 0, .int .i64 0, .int .i64 0, .int .i64 0, .bool false]) 8 Tryz.underlying28 hi hz0 hz1 _ _ _ _ 41 rfl rfl (by omega) (by omega) (by rw [hz2]; omega) (by unfold maxLen; omega) (Nat.le_refl _) ?_; intro va ho6 hg6; have HEa : Hid (DbU w v va SB ca cn cc (t2 + 1 + 1 + 1) (some ⟨v9.heap.size, 0, none⟩) 41 (List.replicate 41 C0)) := made41U HE9.out.src HE9.out.chg HE9.out.ord ho6 ((Below.refl _ _).grown hg6 (Nat.le_refl _) (fun k h => (by cases h))); clear ho6 hg6))
      · go_ret
        exact ⟨List.replicate 41 C0, _, 41, 41, t2 + 1 + 1 + 1, rfl, by rw [List.length_replicate], by omega, HEa.out⟩
      · go_ret
        exact ⟨cs.set 0 { cs.getD 0 C0 with p := z }, _, m, vc, t2 + 1 + 1 + 1, rfl, by rw [List.length_set]; exact HM.out, by omega, HE9.out⟩
    have h0b : (r3 == 0) = false := by simpa using h0
    by_cases h1 : r3 = 1
    · subst h1
      have hp := l1Pick_any SB cn cc (t2 + 1) 2 2 ca (some ⟨v3.heap.size, 0, none⟩) l0 [-1, 1000] w (v3.alloc (.cells #[.int .i64 (-1), .int .i64 1000] 2)) (by omega) (by omega) (by omega) hcn HBA.out (HD3.out.step (below_box _)).src (iat2 _ _ _) (fun b o e => by cases e; have := HD3.out.chg.size; omega)
      go_wp2_with (first
        | (go_at_call 22; have hq := hp; clear hp; (with_reducible refine hq.mono ?_); clear hq; rintro e v5 ⟨z, rfl, _, hS5, hc5⟩; have HD5 : Hid (DcS w v v5 SB ca cn cc (t2 + 1 + 1) (some ⟨g, 0, none⟩) vc cs) := (HD3.out.step (below_box _)).draw hS5 hc5; obtain ⟨c5, ka5, kc5, hcc5, hC5, g0, g2, g6⟩ := HD5.out.cells0 hnn; clear hcc5; obtain ⟨x0, x1, x2, x3, x4, x5, x6, x7⟩ := hC5; simp only [Nat.zero_add] at x0 x1 x2 x3 x4 x5 x6 x7; have HD6 : Hid (DcS w v (v5.setCell ⟨g, 6, none⟩ (.int .i64 z)) SB ca cn cc (t2 + 1 + 1) (some ⟨g, 0, none⟩) vc (cs.set 0 { cs.getD 0 C0 with h := z })) := HD5.out.set_h hnn z; have hch := l1Chance_any SB cn cc (t2 + 1 + 1) ca l0 40 w (v5.setCell ⟨g, 6, none⟩ (.int .i64 z)) (by omega) (by omega) hcn HBA.out HD6.out.src; clear hS5 hc5)
        | (go_at_call 49; have hq := hch; clear hch; (with_reducible refine hq.mono ?_); clear hq; rintro e v9 ⟨r9, rfl, hS9, hc9⟩; have HE9 : Hid (DbU w v v9 SB ca cn cc (t2 + 1 + 1 + 1) (some ⟨g, 0, none⟩) vc (cs.set 0 { cs.getD 0 C0 with h := z })) := HD6.out.du.draw hS9 hc9; clear hS9 hc9)
        | (at_make; refine wpList_make_full _ rfl _ _ 28 rfl v9.heap.size 54 i0 (.agg #[.int .i64 0, .int .i64 0, .int .i64 0, .slice none 0 0, .int .i64 0, .int .i64 0, .int .i64 0, .bool false]) 8 Tryz.underlying28 hi hz0 hz1 _ _ _ _ 41 rfl rfl (by omega) (by omega) (by rw [hz2]; omega) (by unfold maxLen; omega) (Nat.le_refl _) ?_; intro va ho6 hg6; have HEa : Hid (DbU w v va SB ca cn cc (t2 + 1 + 1 + 1) (some ⟨v9.heap.size, 0, none⟩) 41 (List.replicate 41 C0)) := made41U HE9.out.src HE9.out.chg HE9.out.ord ho6 ((Below.refl _ _).grown hg6 (Nat.le_refl _) (fun k h => (by cases h))); clear ho6 hg6))
      · go_ret
        exact ⟨List.replicate 41 C0, _, 41, 41, t2 + 1 + 1 + 1, rfl, by rw [List.length_replicate], by omega, HEa.out⟩
      · go_ret
        exact ⟨cs.set 0 { cs.getD 0 C0 with h := z }, _, m, vc, t2 + 1 + 1 + 1, rfl, by rw [List.length_set]; exact HM.out, by omega, HE9.out⟩
    have h1b : (r3 == 1) = false := by simpa using h1
    by_cases h2 : r3 = 2
    · subst h2
      have HD6 : Hid (DcS w v (v3.setCell ⟨g, 2, none⟩ (.int .i64 0)) SB ca cn cc (t2 + 1) (some ⟨g, 0, none⟩) vc (cs.set 0 { cs.getD 0 C0 with v := 0 })) := HD3.out.set_v hnn 0
      have hch := l1Chance_any SB cn cc (t2 + 1) ca l0 40 w (v3.setCell ⟨g, 2, none⟩ (.int .i64 0)) (by omega) (by omega) hcn HBA.out HD6.out.src
      go_wp2_with (first
        | (go_at_call 49; have hq := hch; clear hch; (with_reducible refine hq.mono ?_); clear hq; rintro e v9 ⟨r9, rfl, hS9, hc9⟩; have HE9 : Hid (DbU w v v9 SB ca cn cc (t2 + 1 + 1) (some ⟨g, 0, none⟩) vc (cs.set 0 { cs.getD 0 C0 with v := 0 })) := HD6.out.du.draw hS9 hc9; clear hS9 hc9)
        | (at_make; refine wpList_make_full _ rfl _ _ 28 rfl v9.heap.size 54 i0 (.agg #[.int .i64 0, .int .i64 0, .int .i64 0, .slice none 0 0, .int .i64 0, .int .i64 0, .int .i64 0, .bool false]) 8 Tryz.underlying28 hi hz0 hz1 _ _ _ _ 41 rfl rfl (by omega) (by omega) (by rw [hz2]; omega) (by unfold maxLen; omega) (Nat.le_refl _) ?_; intro va ho6 hg6; have HEa : Hid (DbU w v va SB ca cn cc (t2 + 1 + 1) (some ⟨v9.heap.size, 0, none⟩) 41 (List.replicate 41 C0)) := made41U HE9.out.src HE9.out.chg HE9.out.ord ho6 ((Below.refl _ _).grown hg6 (Nat.le_refl _) (fun k h => (by cases h))); clear ho6 hg6))
      · go_ret
        exact ⟨List.replicate 41 C0, _, 41, 41, t2 + 1 + 1, rfl, by rw [List.length_replicate], by omega, HEa.out⟩
      · go_ret
        exact ⟨cs.set 0 { cs.getD 0 C0 with v := 0 }, _, m, vc, t2 + 1 + 1, rfl, by rw [List.length_set]; exact HM.out, by omega, HE9.out⟩
    have h2b : (r3 == 2) = false := by simpa using h2
    by_cases h3 : r3 = 3
    · subst h3
      obtain ⟨g5, c5, v5, hrun, HD5'⟩ := HD3.out.dup hnn HC0.out ⟨y0, y1, y2, y3, y4, y5, y6, y7⟩
      have HD5 : Hid (DbU w v v5 SB ca cn cc (t2 + 1) (some ⟨g5, 0, none⟩) c5 (cs ++ [c])) := ⟨.inr ⟨HD5'.out, cs, hnn, by rw [← HC0.out]⟩⟩
      rw [← HM.out] at hrun
      have hch := l1Chance_any SB cn cc (t2 + 1) ca l0 40 w v5 (by omega) (by omega) hcn HBA.out HD5.out.src
      go_wp2_with (first
        | (at_builtin; go_must (refine wpList_append_runC (by rfl) _ _ _ (by rfl) (by rfl) (by rfl) hrun ?_); clear hrun)
        | (go_at_call 49; have hq := hch; clear hch; (with_reducible refine hq.mono ?_); clear hq; rintro e v9 ⟨r9, rfl, hS9, hc9⟩; have HE9 : Hid (DbU w v v9 SB ca cn cc (t2 + 1 + 1) (some ⟨g5, 0, none⟩) c5 (cs ++ [c])) := HD5.out.draw hS9 hc9; clear hS9 hc9)
        | (at_make; refine wpList_make_full _ rfl _ _ 28 rfl v9.heap.size 54 i0 (.agg #[.int .i64 0, .int .i64 0, .int .i64 0, .slice none 0 0, .int .i64 0, .int .i64 0, .int .i64 0, .bool false]) 8 Tryz.underlying28 hi hz0 hz1 _ _ _ _ 41 rfl rfl (by omega) (by omega) (by rw [hz2]; omega) (by unfold maxLen; omega) (Nat.le_refl _) ?_; intro va ho6 hg6; have HEa : Hid (DbU w v va SB ca cn cc (t2 + 1 + 1) (some ⟨v9.heap.size, 0, none⟩) 41 (List.replicate 41 C0)) := made41U HE9.out.src HE9.out.chg HE9.out.ord ho6 ((Below.refl _ _).grown hg6 (Nat.le_refl _) (fun k h => (by cases h))); clear ho6 hg6))
      · go_ret
        exact ⟨List.replicate 41 C0, _, 41, 41, t2 + 1 + 1, rfl, by rw [List.length_replicate], by omega, HEa.out⟩
      · go_ret
        exact ⟨cs ++ [c], _, m + 1, c5, t2 + 1 + 1, rfl, by rw [List.length_append, HM.out]; rfl, by omega, HE9.out⟩
    have h3b : (r3 == 3) = false := by simpa using h3
    have hch := l1Chance_any SB cn cc (t2 + 1) ca l0 40 w v3 (by omega) (by omega) hcn HBA.out HD3.out.src
    go_wp2_with (first
      | (go_at_call 49; have hq := hch; clear hch; (with_reducible refine hq.mono ?_); clear hq; rintro e v9 ⟨r9, rfl, hS9, hc9⟩; have HE9 : Hid (DbU w v v9 SB ca cn cc (t2 + 1 + 1) (some ⟨g, 0, none⟩) vc cs) := HD3.out.du.draw hS9 hc9; clear hS9 hc9)
      | (at_make; refine wpList_make_full _ rfl _ _ 28 rfl v9.heap.size 54 i0 (.agg #[.int .i64 0, .int .i64 0, .int .i64 0, .slice none 0 0, .int .i64 0, .int .i64 0, .int .i64 0, .bool false]) 8 Tryz.underlying28 hi hz0 hz1 _ _ _ _ 41 rfl rfl (by omega) (by omega) (by rw [hz2]; omega) (by unfold maxLen; omega) (Nat.le_refl _) ?_; intro va ho6 hg6; have HEa : Hid (DbU w v va SB ca cn cc (t2 + 1 + 1) (some ⟨v9.heap.size, 0, none⟩) 41 (List.replicate 41 C0)) := made41U HE9.out.src HE9.out.chg HE9.out.ord ho6 ((Below.refl _ _).grown hg6 (Nat.le_refl _) (fun k h => (by cases h))); clear ho6 hg6))
    · go_ret
      exact ⟨List.replicate 41 C0, _, 41, 41, t2 + 1 + 1, rfl, by rw [List.length_replicate], by omega, HEa.out⟩
    · go_ret
      exact ⟨cs, _, m, vc, t2 + 1 + 1, rfl, HM.out, by omega, HE9.out⟩
  · have hni : ¬ 0 < (m : Int) := by omega
    have hch := l1Chance_any SB cn cc t2 ca l0 40 w v2 (by omega) (by omega) hcn HBA.out HD2.out.src
    go_wp2_with (first
      | (go_at_call 49; have hq := hch; clear hch; (with_reducible refine hq.mono ?_); clear hq; rintro e v9 ⟨r9, rfl, hS9, hc9⟩; have HE9 : Hid (DbU w v v9 SB ca cn cc (t2 + 1) va vc cs) := HD2.out.du.draw hS9 hc9; clear hS9 hc9)
      | (at_make; refine wpList_make_full _ rfl _ _ 28 rfl v9.heap.size 54 i0 (.agg #[.int .i64 0, .int .i64 0, .int .i64 0, .slice none 0 0, .int .i64 0, .int .i64 0, .int .i64 0, .bool false]) 8 Tryz.underlying28 hi hz0 hz1 _ _ _ _ 41 rfl rfl (by omega) (by omega) (by rw [hz2]; omega) (by unfold maxLen; omega) (Nat.le_refl _) ?_; intro vz ho6 hg6; have HEa : Hid (DbU w v vz SB ca cn cc (t2 + 1) (some ⟨v9.heap.size, 0, none⟩) 41 (List.replicate 41 C0)) := made41U HE9.out.src HE9.out.chg HE9.out.ord ho6 ((Below.refl _ _).grown hg6 (Nat.le_refl _) (fun k h => (by cases h))); clear ho6 hg6))
    · go_ret
      exact ⟨List.replicate 41 C0, _, 41, 41, t2 + 1, rfl, by rw [List.length_replicate], by omega, HEa.out⟩
    · go_ret
      exact ⟨cs, _, m, vc, t2 + 1, rfl, HM.out, by omega, HE9.out⟩

end Go.Proofs.YtagokfoimokniaaGreatDoor
