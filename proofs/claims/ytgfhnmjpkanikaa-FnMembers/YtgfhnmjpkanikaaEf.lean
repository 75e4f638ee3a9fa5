/- The program's and the specification's KeysOf. -/
import Derived.Test.YtgfhnmjpkanikaaEe
namespace Go.Proofs.Ytgfhnmjpkanikaa
open Go.RowKit Go.Maps Go.WideMaps

/-- What KeysOf comes to. -/
def keysR (ms : List Mb) : Int × List Int := if memsR ms ≠ 0 then (memsR ms, []) else (0, ms.map (·.1))
def OutIs (w w' : World) (e : Ending) (cd : Int) (ks : List Int) : Prop :=
  ∃ va vc, e = .returned (.agg #[.int .i64 cd, .slice va ks.length vc]) ∧ w'.ownsRow w.heap.size 2 1 (.slice va ks.length vc) ks.length (ints ks) ∧ Below w.heap.size w w'
theorem outi_code {w W : World} {R : Nat} {cd : Int} (hR : w.heap.size ≤ R) (hb : Below w.heap.size w W) : OutIs w ((W.setCell ⟨R, 0, none⟩ (.int .i64 cd)).setCell ⟨R, 1, none⟩ (.slice none 0 0)) (.returned (.agg #[.int .i64 cd, .slice none 0 0])) cd [] :=
  ⟨none, 0, rfl, ⟨rfl, .inl ⟨rfl, rfl⟩⟩, (hb.setCell (p := ⟨R, 0, none⟩) hR _).setCell (p := ⟨R, 1, none⟩) hR _⟩
theorem outi_ints {w W : World} {R lo n : Nat} {ks : List Int} {va : Option Addr} {vc : Nat} (hn : ks.length = n) (hR : w.heap.size ≤ R) (hlo : R < lo) (hb : Below w.heap.size w W) (hO : W.ownsRow lo 2 1 (.slice va n vc) n (ints ks)) :
    OutIs w ((W.setCell ⟨R, 0, none⟩ (.int .i64 0)).setCell ⟨R, 1, none⟩ (.slice va n vc)) (.returned (.agg #[.int .i64 0, .slice va n vc])) 0 ks := by
  subst hn
  exact ⟨va, vc, rfl, Joins.ownsRow_le (ownsRow_setCell_below (ownsRow_setCell_below hO (a := ⟨R, 0, none⟩) hlo _) (a := ⟨R, 1, none⟩) hlo _) (by omega), (hb.setCell (p := ⟨R, 0, none⟩) hR _).setCell (p := ⟨R, 1, none⟩) hR _⟩

theorem mems_few {ms : List Mb} {n : Nat} (hn : ms.length = n) (h : memsR ms = 0) : n ≤ 8 := by
  rcases Nat.lt_or_ge 8 n with h' | h'
  · unfold memsR at h
    rw [if_pos (by rw [hn]; exact h')] at h
    cases h
  · exact h'

set_option maxRecDepth 20000 in
set_option maxHeartbeats 2000000 in
theorem iKeysOf_any (n c : Nat) (a : Option Addr) (ms : List Mb) (w : World) (hn : n ≤ 1048576) (hC : MAt w a n ms) :
    Calls Try.prog 9 #[.slice a n c] w fun e w' => OutIs w w' e (keysR ms).1 (keysR ms).2 := by
  have hbx : Below w.heap.size w (w.alloc (.cells #[.int .i64 0, .slice none 0 0] 41)) := below_box _
  have hC1 := hC.below hbx (Nat.le_refl _)
  have HBX : Hid (Below w.heap.size w (w.alloc (.cells #[.int .i64 0, .slice none 0 0] 41))) := hbx
  have T1 : Hid ((w.alloc (.cells #[.int .i64 0, .slice none 0 0] 41)).heap[w.heap.size]? = some (.cells #[.int .i64 0, .slice none 0 0] 41 (0, 0))) := heap_alloc_new _ _
  obtain ⟨cd, hcd⟩ : ∃ r, r = memsR ms := ⟨_, rfl⟩
  have HN : Hid (ms.length = n) := hC.1
  clear hbx
  by_cases h0 : cd = 0
  · subst h0
    have hr : keysR ms = (0, ms.map (·.1)) := by unfold keysR; rw [if_neg (by simp [← hcd])]
    rw [hr]
    have hn8 := mems_few hC.1 hcd.symm
    have HLN : Hid ((ms.map (·.1)).length = n) := by show _ = _; rw [List.length_map]; exact hC.1
    have hF := fillBench_ok n c a ms (w.alloc (.cells #[.int .i64 0, .slice none 0 0] 41)) hn hC1 hcd.symm
    clear hr hcd hC hC1
    go_enter Try.func9, Try.ntmps9
    go_wp2_with (first
      | (go_at_call 19; (with_reducible refine hF.mono ?_); clear hF; rintro e w2 ⟨va, vc, rfl, hO2, hb2⟩; have HM2 : Hid (MAt w2 va n ms) := mat_row hO2 HN.out; have HT1 := keepb T1.out hb2; have HB2 : Hid (Below w.heap.size w w2) := HBX.out.trans (hb2.mono HBX.out.size); obtain ⟨y0, y1⟩ := cells2 HT1.out; have f0 := Joins.unfrozen_of_block HT1.out 0; have f1 := Joins.unfrozen_of_block HT1.out 1; clear hb2 hO2))
    clear y0 y1 f0 f1
    go_loopw [5, 19] (fun v i wr => ∃ j : Nat, j ≤ n ∧ i = .int .i64 j ∧ Below w2.heap.size w2 wr ∧ ∃ ua uc, v = .slice ua j uc ∧ Hid (wr.ownsRow w2.heap.size 2 1 (.slice ua j uc) j (ints ((ms.take j).map (·.1))))) (fun _ i _ => n - (intOf i).toNat)
    case atStart => exact ⟨0, Nat.zero_le _, rfl, Below.refl _ _, none, 0, rfl, ⟨rfl, .inl ⟨rfl, rfl⟩⟩⟩
    case round =>
      obtain ⟨j, hj, rfl, hbel, ua, uc, rfl, HO⟩ := hrel
      by_cases hlt : j < n
      · rcases HM2.out.2 with h0 | ⟨b, off, e0, l0, d0⟩
        · omega
        subst e0
        obtain ⟨o, ho⟩ : ∃ o, o = ms.getD j Z3 := ⟨_, rfl⟩
        have p0 := d0 j hlt
        rw [← ho] at p0
        have HTS : Hid ((ms.take (j + 1)).map (·.1) = (ms.take j).map (·.1) ++ [o.1]) := take_map1 Prod.fst HN.out hlt ho
        obtain ⟨ok, op, oq⟩ := o
        have x0 := (hbel.cell (p := ⟨b, off + j * 3, none⟩) l0).trans p0.1
        have x1 := (hbel.cell (p := ⟨b, off + j * 3 + 1, none⟩) l0).trans p0.2.1
        have x2 := (hbel.cell (p := ⟨b, off + j * 3 + 2, none⟩) l0).trans p0.2.2
        simp only at x0 x1 x2
        have hki : (j : Int) < (n : Int) := by omega
        have hsz := hbel.size
        obtain ⟨g5, cap, w5, hrun, HC5⟩ := int_added (k := ok) (X := wr.heap.size + 1) ((HO.out.alloc (.cells #[.int .i64 ok, .int .i64 op, .int .i64 oq] 68)).alloc (.cells #[.int .i64 ok] 2)) (heap_alloc_at _ _ _ (by simp)) (by omega) (by simp; omega)
        have HB5 : Hid (Below w2.heap.size w2 w5) := (hbel.trans ((below_box2 _ _).mono hbel.size)).grown HC5.out.2 (by simp; omega) (fun k hk => (HO.out.lt k hk).1)
        clear ho p0 d0 hsz
        go_wp2_with (first
          | (at_builtin; go_must (refine wpList_append_runC (by rfl) _ _ _ (by rfl) (by rfl) (by rfl) hrun ?_); clear hrun))
        go_roundw
        case rel => exact ⟨j + 1, by omega, by go_num, HB5.out, _, _, rfl, by rw [HTS.out]; exact HC5.out.1⟩
        case measure => simp [intOf]; omega
      · have hjn : j = n := by omega
        subst hjn
        have HTF : Hid (ms.take j = ms) := List.take_of_length_le (by rw [HN.out]; omega)
        have HT3 := keepb HT1.out hbel
        obtain ⟨y0, y1⟩ := cells2 HT3.out
        have f0 := Joins.unfrozen_of_block HT3.out 0
        have f1 := Joins.unfrozen_of_block HT3.out 1
        have HO3 : Hid (wr.ownsRow w2.heap.size 2 1 (.slice ua j uc) j (ints (ms.map (·.1)))) := by have := HO.out; rw [HTF.out] at this; exact this
        go_wp2
        obtain ⟨_, j1⟩ := two_set HT3.out (.int .i64 0) (.slice ua j uc)
        exact bodyPost_ret (v := .agg #[.int .i64 0, .slice ua j uc]) (by simp [results, Try.results9, go_sem, j1]) rfl (outi_ints HLN.out (Nat.le_refl _) (lt_of_block HT1.out) (HB2.out.trans (hbel.mono HB2.out.size)) HO3.out)
  · have hr : keysR ms = (cd, []) := by unfold keysR; rw [← hcd, if_pos h0]
    rw [hr]
    have hF := fillBench_bad n c a ms cd (w.alloc (.cells #[.int .i64 0, .slice none 0 0] 41)) hn hC1 hcd.symm h0
    clear hr hcd hC hC1
    go_enter Try.func9, Try.ntmps9
    go_wp2_with (first
      | (go_at_call 19; (with_reducible refine hF.mono ?_); clear hF; rintro e w2 ⟨rfl, hb2⟩; have HT1 := keepb T1.out hb2; have HB2 : Hid (Below w.heap.size w w2) := HBX.out.trans (hb2.mono HBX.out.size); obtain ⟨y0, y1⟩ := cells2 HT1.out; have f0 := Joins.unfrozen_of_block HT1.out 0; have f1 := Joins.unfrozen_of_block HT1.out 1; clear hb2))
    obtain ⟨_, j1⟩ := two_set HT1.out (.int .i64 cd) (.slice none 0 0)
    exact bodyPost_ret (v := .agg #[.int .i64 cd, .slice none 0 0]) (by simp [results, Try.results9, go_sem, j1]) rfl (outi_code (Nat.le_refl _) HB2.out)

end Go.Proofs.Ytgfhnmjpkanikaa
