/- The program's and the specification's MemberOf. -/
import Derived.Test.YtgfhnmjpkanikaaEg
namespace Go.Proofs.Ytgfhnmjpkanikaa
open Go.RowKit Go.Maps Go.WideMaps

/-- What MemberOf comes to. -/
def memberR (ms : List Mb) (key : Int) : Int × List Mb :=
  if memsR ms ≠ 0 then (memsR ms, []) else match ms.find? (fun m => decide (m.1 = key)) with
    | none => (4, [])
    | some m => (0, [m])
def OutMs (w w' : World) (e : Ending) (cd : Int) (ks : List Mb) : Prop :=
  ∃ va vc, e = .returned (.agg #[.int .i64 cd, .slice va ks.length vc]) ∧ w'.ownsRow w.heap.size 38 3 (.slice va ks.length vc) ks.length (mcells ks) ∧ Below w.heap.size w w'
theorem outm_code {w W : World} {R : Nat} {cd : Int} (hR : w.heap.size ≤ R) (hb : Below w.heap.size w W) : OutMs w ((W.setCell ⟨R, 0, none⟩ (.int .i64 cd)).setCell ⟨R, 1, none⟩ (.slice none 0 0)) (.returned (.agg #[.int .i64 cd, .slice none 0 0])) cd [] :=
  ⟨none, 0, rfl, ⟨rfl, .inl ⟨rfl, rfl⟩⟩, (hb.setCell (p := ⟨R, 0, none⟩) hR _).setCell (p := ⟨R, 1, none⟩) hR _⟩
theorem outm_mems {w W : World} {R lo n : Nat} {ks : List Mb} {va : Option Addr} {vc : Nat} {cd : Int} (hn : ks.length = n) (hR : w.heap.size ≤ R) (hlo : R < lo) (hb : Below w.heap.size w W) (hO : W.ownsRow lo 38 3 (.slice va n vc) n (mcells ks)) :
    OutMs w ((W.setCell ⟨R, 0, none⟩ (.int .i64 cd)).setCell ⟨R, 1, none⟩ (.slice va n vc)) (.returned (.agg #[.int .i64 cd, .slice va n vc])) cd ks := by
  subst hn
  exact ⟨va, vc, rfl, Joins.ownsRow_le (ownsRow_setCell_below (ownsRow_setCell_below hO (a := ⟨R, 0, none⟩) hlo _) (a := ⟨R, 1, none⟩) hlo _) (by omega), (hb.setCell (p := ⟨R, 0, none⟩) hR _).setCell (p := ⟨R, 1, none⟩) hR _⟩
theorem find_hit {ms : List Mb} {key : Int} {k : Nat} (hk : k < ms.length) (ha : ∀ t, t < k → (ms.getD t Z3).1 ≠ key) (he : (ms.getD k Z3).1 = key) : ms.find? (fun m => decide (m.1 = key)) = some (ms.getD k Z3) := by
  induction ms generalizing k with
  | nil => simp at hk
  | cons x t ih =>
    cases k with
    | zero =>
      have he' : x.1 = key := he
      rw [List.find?_cons_of_pos (by simp [he'])]
      rfl
    | succ k =>
      have h0 : x.1 ≠ key := ha 0 (by omega)
      rw [List.find?_cons_of_neg (by simp [h0])]
      exact ih (by simpa using hk) (fun j hj => ha (j + 1) (by omega)) he
theorem find_miss {ms : List Mb} {key : Int} (ha : ∀ t, t < ms.length → (ms.getD t Z3).1 ≠ key) : ms.find? (fun m => decide (m.1 = key)) = none := by
  rw [List.find?_eq_none]
  intro x hx
  obtain ⟨t, ht, rfl⟩ := List.getElem_of_mem hx
  have := ha t ht
  rw [List.getD, List.getElem?_eq_getElem ht] at this
  simpa using this

/-- Where the specification finds a key. -/
def AtK (ms : List Mb) (n : Nat) (key : Int) (i : Int) : Prop := (i = -1 ∧ ∀ t, t < n → (ms.getD t Z3).1 ≠ key) ∨ ∃ k : Nat, k < n ∧ i = k ∧ (∀ t, t < k → (ms.getD t Z3).1 ≠ key) ∧ (ms.getD k Z3).1 = key

set_option maxHeartbeats 1000000 in
theorem l6At_any (n c : Nat) (a : Option Addr) (ms : List Mb) (key : Int) (w : World) (hn : n ≤ 1048576) (hC : MAt w a n ms) :
    Calls Try.prog 47 #[.slice a n c, .int .i64 key] w fun e w' => ∃ i : Int, e = .returned (.int .i64 i) ∧ Hid (AtK ms n key i) ∧ w' = w := by
  have HC : Hid (MAt w a n ms) := hC
  have HN : Hid (ms.length = n) := hC.1
  clear hC
  go_enter Try.func47, Try.ntmps47
  go_wp2
  go_loop [5] (fun i => ∃ j : Nat, j ≤ n ∧ i = .int .i64 j ∧ Hid (∀ t, t < j → (ms.getD t Z3).1 ≠ key)) (fun i => n - (intOf i).toNat)
  case atStart => exact ⟨0, Nat.zero_le _, rfl, fun t ht => by omega⟩
  case round =>
    obtain ⟨j, hj, rfl, HH⟩ := hrel
    by_cases hlt : j < n
    · rcases HC.out.2 with h0 | ⟨b, off, e0, l0, d0⟩
      · omega
      subst e0
      obtain ⟨ok, hok⟩ : ∃ o, o = (ms.getD j Z3).1 := ⟨_, rfl⟩
      have x0 := (d0 j hlt).1
      rw [← hok] at x0
      have HO : Hid (ok = (ms.getD j Z3).1) := hok
      have hki : (j : Int) < (n : Int) := by omega
      clear d0 hok
      by_cases he : ok = key
      · have HX : Hid (AtK ms n key (j : Int)) := .inr ⟨j, hlt, rfl, HH.out, by rw [← HO.out]; exact he⟩
        go_wp2
        go_ret
        exact ⟨_, rfl, HX, rfl⟩
      · have HX : Hid (∀ t, t < j + 1 → (ms.getD t Z3).1 ≠ key) := fun t ht => by
          rcases Nat.lt_or_ge t j with h1 | h1
          · exact HH.out t h1
          · obtain rfl : t = j := by omega
            rw [← HO.out]; exact he
        go_wp2
        go_round
        case rel => exact ⟨j + 1, by omega, by go_num, HX⟩
        case measure => simp [intOf]; omega
    · have HX : Hid (AtK ms n key (-1)) := .inl ⟨rfl, fun t ht => HH.out t (by omega)⟩
      go_wp2
      go_ret
      exact ⟨_, rfl, HX, rfl⟩

theorem mat_part {w : World} {g n off k : Nat} {ms : List Mb} {o : Mb} (h : MAt w (some ⟨g, off, none⟩) n ms) (hk : k < n) (ho : o = ms.getD k Z3) : MAt w (some ⟨g, off + k * 3, none⟩) 1 [o] := by
  rcases h.2 with h0 | ⟨b, o', e, hb, hc⟩
  · omega
  cases e
  refine ⟨rfl, .inr ⟨g, off + k * 3, rfl, hb, fun j hj => ?_⟩⟩
  obtain rfl : j = 0 := by omega
  have := hc k hk
  rw [← ho] at this
  simpa using this

set_option maxRecDepth 20000 in
set_option maxHeartbeats 2000000 in
theorem iMemberOf_any (n c : Nat) (a : Option Addr) (ms : List Mb) (key : Int) (w : World) (hn : n ≤ 1048576) (hC : MAt w a n ms) :
    Calls Try.prog 8 #[.slice a n c, .int .i64 key] w fun e w' => OutMs w w' e (memberR ms key).1 (memberR ms key).2 := by
  have hbx : Below w.heap.size w (w.alloc (.cells #[.int .i64 0, .slice none 0 0] 32)) := below_box _
  have hC1 := hC.below hbx (Nat.le_refl _)
  have HBX : Hid (Below w.heap.size w (w.alloc (.cells #[.int .i64 0, .slice none 0 0] 32))) := hbx
  have T1 : Hid ((w.alloc (.cells #[.int .i64 0, .slice none 0 0] 32)).heap[w.heap.size]? = some (.cells #[.int .i64 0, .slice none 0 0] 32 (0, 0))) := heap_alloc_new _ _
  obtain ⟨cd, hcd⟩ : ∃ r, r = memsR ms := ⟨_, rfl⟩
  have HN : Hid (ms.length = n) := hC.1
  clear hbx
  obtain ⟨rc, hrc⟩ : ∃ x, x = (memberR ms key).1 := ⟨_, rfl⟩
  obtain ⟨rr, hrr⟩ : ∃ x, x = (memberR ms key).2 := ⟨_, rfl⟩
  rw [← hrc, ← hrr]
  have HRC : Hid (rc = (memberR ms key).1) := hrc
  have HRR : Hid (rr = (memberR ms key).2) := hrr
  clear hrc hrr
  by_cases h0 : cd = 0
  · subst h0
    have hn8 := mems_few hC.1 hcd.symm
    have HRI : Hid (Rises ms) := mems_rise hcd.symm
    have HR : Hid (memberR ms key = match ms.find? (fun m => decide (m.1 = key)) with | none => (4, []) | some m => (0, [m])) := by show _ = _; unfold memberR; rw [if_neg (by simp [← hcd])]
    have hF := fillBench_ok n c a ms (w.alloc (.cells #[.int .i64 0, .slice none 0 0] 32)) hn hC1 hcd.symm
    clear hcd hC hC1
    go_enter Try.func8, Try.ntmps8
    go_wp2_with (first
      | (go_at_call 19; (with_reducible refine hF.mono ?_); clear hF; rintro e w2 ⟨va, vc, rfl, hO2, hb2⟩; have HM2 : Hid (MAt w2 va n ms) := mat_row hO2 HN.out; have HO2 : Hid (w2.ownsRow (w.alloc (.cells #[.int .i64 0, .slice none 0 0] 32)).heap.size 68 3 (.slice va n vc) n (mcells ms)) := hO2; have HT1 := keepb T1.out hb2; have HB2 : Hid (Below w.heap.size w w2) := HBX.out.trans (hb2.mono HBX.out.size); have hP := placeOf_any n vc va ms key w2 (by omega) HM2.out HRI.out; clear hb2 hO2))
    refine hP.mono ?_
    clear hP
    rintro e w3 ⟨at', fo, rfl, HP, hb3⟩
    have HM3 : Hid (MAt w3 va n ms) := HM2.out.below hb3 (Nat.le_refl _)
    have HT3 := keepb HT1.out hb3
    have HB3 : Hid (Below w.heap.size w w3) := HB2.out.trans (hb3.mono HB2.out.size)
    obtain ⟨y0, y1⟩ := cells2 HT3.out
    have f0 := Joins.unfrozen_of_block HT3.out 0
    have f1 := Joins.unfrozen_of_block HT3.out 1
    clear hb3
    cases fo
    · have hr : memberR ms key = (4, []) := by rw [HR.out, find_miss (HP.out.miss rfl)]
      obtain rfl : rc = 4 := by rw [HRC.out, hr]
      obtain rfl : rr = [] := by rw [HRR.out, hr]
      clear hr
      go_wp2
      obtain ⟨_, j1⟩ := two_set HT3.out (.int .i64 4) (.slice none 0 0)
      exact bodyPost_ret (v := .agg #[.int .i64 4, .slice none 0 0]) (by simp [results, Try.results8, go_sem, j1]) rfl (outm_code (Nat.le_refl _) HB3.out)
    · obtain ⟨o, ho⟩ : ∃ o, o = ms.getD at' Z3 := ⟨_, rfl⟩
      obtain ⟨hat, hhit⟩ := HP.out.hit rfl
      rw [HN.out] at hat
      have hr : memberR ms key = (0, [o]) := by rw [HR.out, find_hit (k := at') (by rw [HN.out]; exact hat) (fun t ht => by have := HP.out.ahead t ht; omega) hhit, ← ho]
      obtain rfl : rc = 0 := by rw [HRC.out, hr]
      obtain rfl : rr = [o] := by rw [HRR.out, hr]
      obtain ⟨g, rfl, hq1, hq2⟩ : ∃ g, va = some ⟨g, 0, none⟩ ∧ n ≤ vc ∧ vc ≤ maxLen := by
        rcases HO2.out.2 with ⟨_, e⟩ | ⟨g, cap, cur, e, _, _, q1, q2, _⟩
        · omega
        · cases e; exact ⟨g, rfl, q1, q2⟩
      unfold maxLen at hq2
      have hwr : IntKind.i64.wrap ((at' : Int) + 1) = (at' : Int) + 1 := IntWalk.i64_in _ (by omega)
      have htn : ((at' : Int) + 1).toNat = at' + 1 := by omega
      have h01 : (0 : Int) ≤ (at' : Int) + 1 := by omega
      have h11 : (at' : Int) ≤ (at' : Int) + 1 := by omega
      have hkc2 : (at' : Int) + 1 ≤ (vc : Int) := by omega
      have hkc : (at' : Int) ≤ (vc : Int) := by omega
      have hsu : at' + 1 - at' = 1 := by omega
      have hne : ¬ vc = at' := by omega
      have HMS := members_any 1 (vc - at') (some ⟨g, 0 + at' * 3, none⟩) [o] w3 (by omega) (mat_part HM3.out hat ho)
      rw [Nat.zero_add] at HMS
      clear hr hhit ho
      go_wp2_with (first
        | (go_at_call 23; (with_reducible refine HMS.mono ?_); clear HMS; rintro e w4 ⟨ua, uc, rfl, hO4, hb4⟩; have HO4 : Hid (w4.ownsRow w3.heap.size 38 3 (.slice ua 1 uc) 1 (mcells [o])) := hO4; have HT4 := keepb HT3.out hb4; have HB4 : Hid (Below w.heap.size w w4) := HB3.out.trans (hb4.mono HB3.out.size); clear hO4 hb4 y0 y1 f0 f1; obtain ⟨y0, y1⟩ := cells2 HT4.out; have f0 := Joins.unfrozen_of_block HT4.out 0; have f1 := Joins.unfrozen_of_block HT4.out 1))
      obtain ⟨_, j1⟩ := two_set HT4.out (.int .i64 0) (.slice ua 1 uc)
      exact bodyPost_ret (v := .agg #[.int .i64 0, .slice ua 1 uc]) (by simp [results, Try.results8, go_sem, j1]) rfl (outm_mems (lo := w3.heap.size) rfl (Nat.le_refl _) (lt_of_block HT3.out) HB4.out HO4.out)
  · have hr : memberR ms key = (cd, []) := by unfold memberR; rw [← hcd, if_pos h0]
    obtain rfl : cd = rc := by rw [HRC.out, hr]
    obtain rfl : rr = [] := by rw [HRR.out, hr]
    have hF := fillBench_bad n c a ms cd (w.alloc (.cells #[.int .i64 0, .slice none 0 0] 32)) hn hC1 hcd.symm h0
    clear hr hcd hC hC1
    go_enter Try.func8, Try.ntmps8
    go_wp2_with (first
      | (go_at_call 19; (with_reducible refine hF.mono ?_); clear hF; rintro e w2 ⟨rfl, hb2⟩; have HT1 := keepb T1.out hb2; have HB2 : Hid (Below w.heap.size w w2) := HBX.out.trans (hb2.mono HBX.out.size); obtain ⟨y0, y1⟩ := cells2 HT1.out; have f0 := Joins.unfrozen_of_block HT1.out 0; have f1 := Joins.unfrozen_of_block HT1.out 1; clear hb2))
    obtain ⟨_, j1⟩ := two_set HT1.out (.int .i64 cd) (.slice none 0 0)
    exact bodyPost_ret (v := .agg #[.int .i64 cd, .slice none 0 0]) (by simp [results, Try.results8, go_sem, j1]) rfl (outm_code (Nat.le_refl _) HB2.out)

end Go.Proofs.Ytgfhnmjpkanikaa
