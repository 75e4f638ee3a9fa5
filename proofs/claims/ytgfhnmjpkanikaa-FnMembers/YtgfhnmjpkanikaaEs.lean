/- The program's bench: who joins. -/
import Derived.Test.YtgfhnmjpkanikaaEr
namespace Go.Proofs.Ytgfhnmjpkanikaa
open Go.RowKit Go.Maps Go.WideMaps

theorem insert_any (n vc lo X i : Nat) (va : Option Addr) (ms : List Mb) (x : Mb) (w : World) (hn : n ≤ 500) (hi : i ≤ n) (hlo : lo ≤ w.heap.size) (h : w.ownsRow lo 68 3 (.slice va n vc) n (mcells ms)) (hX : w.heap[X]? = some (.cells #[.int .i64 x.1, .int .i64 x.2.1, .int .i64 x.2.2] 68 (0, 0))) (hXg : ∀ g, va = some ⟨g, 0, none⟩ → X ≠ g) :
    Calls Try.prog 63 #[.slice va n vc, .int .i64 i, .slice (some ⟨X, 0, none⟩) 1 1] w fun e w' => InsO w w' e lo (.slice va n vc) (ms.take i ++ x :: ms.drop i) := by
  have hl : ms.length = n := by have := h.1; rw [mcells_length] at this; omega
  by_cases he : i = n
  · subst he
    have := insertEnd_any i vc lo X va ms x w hn hlo h hX
    rw [show ms.take i ++ x :: ms.drop i = ms ++ [x] by rw [List.take_of_length_le (by omega), List.drop_eq_nil_of_le (by omega)]]
    exact this
  · rcases row_someE h with ⟨_, e0, _⟩ | ⟨g, rfl⟩
    · omega
    · by_cases hr : n + 1 ≤ vc
      · exact insertShift_any g n vc lo X i ms x w hn (by omega) hr h hX (hXg g rfl)
      · exact insertGrow_any g n vc lo X i ms x w hn (by omega) hlo (by omega) h hX

theorem grow_join {w w3 w4 w5 : World} {row : Option Nat} (h : Below w.heap.size w w3) (h4 : Below w3.heap.size w3 w4) (k : w4.grownBy w5 row) : w.grownBy w5 row := by
  have a := h.trans (h4.mono h.size)
  exact ⟨k.os.trans a.os, k.tape.trans a.tape, k.output.trans a.output, Nat.le_trans a.size k.size, fun b hl hne => (k.block b (Nat.lt_of_lt_of_le hl a.size) hne).trans (a.block b hl)⟩
/-- What joining comes to. -/
def JnO (w w' : World) (e : Ending) (lo : Nat) (v : Value) (rc : Int) (rr : List Mb) : Prop :=
  ∃ ua uc, e = .returned (.tuple #[.slice ua rr.length uc, .int .i64 rc]) ∧ w'.ownsRow lo 68 3 (.slice ua rr.length uc) rr.length (mcells rr) ∧ w.grownBy w' v.ownBlock
theorem jn_code {w w' : World} {lo : Nat} {v : Value} {cd rc : Int} {rr : List Mb} (h1 : rc = cd) (h2 : rr = []) (hb : Below w.heap.size w w') : JnO w w' (.returned (.tuple #[.slice none 0 0, .int .i64 cd])) lo v rc rr := by
  subst h1 h2
  refine ⟨none, 0, rfl, ⟨rfl, .inl ⟨rfl, rfl⟩⟩, ?_⟩
  have g := grown_of_below hb
  exact ⟨g.os, g.tape, g.output, g.size, fun b hl _ => g.block b hl (by simp)⟩

set_option maxRecDepth 20000 in
set_option maxHeartbeats 4000000 in
theorem joinB_any (n vc lo : Nat) (va : Option Addr) (ms : List Mb) (key p q : Int) (w : World) (hn : n ≤ 8) (hlo : lo ≤ w.heap.size) (h : w.ownsRow lo 68 3 (.slice va n vc) n (mcells ms)) (hri : Rises ms) :
    Calls Try.prog 43 #[.slice va n vc, .int .i64 key, .agg #[.int .i64 p, .int .i64 q]] w fun e w' => JnO w w' e lo (.slice va n vc) (joinMR ms (key, p, q)).1 (joinMR ms (key, p, q)).2 := by
  have hmf : ∀ (fn : Fn) (first cap : Array Value) (w : World), (Instr.makeFunc fn first cap).run Try.prog w = .ok (.func fn first cap) w := fun _ _ _ _ => rfl
  have hl : ms.length = n := by have := h.1; rw [mcells_length] at this; omega
  have hr1 : (w.alloc (.cells #[.int .i64 p, .int .i64 q] 36)).ownsRow lo 68 3 (.slice va n vc) n (mcells ms) := h.alloc _
  have hP := placeOf_any n vc va ms key (w.alloc (.cells #[.int .i64 p, .int .i64 q] 36)) (by omega) (mat_row hr1 hl) hri
  have HR1 : Hid ((w.alloc (.cells #[.int .i64 p, .int .i64 q] 36)).ownsRow lo 68 3 (.slice va n vc) n (mcells ms)) := hr1
  have HN : Hid (ms.length = n) := hl
  have HGL : Hid (∀ g, va = some ⟨g, 0, none⟩ → g < w.heap.size) := fun g e => by subst e; exact (h.lt g rfl).2
  have T1 : Hid ((w.alloc (.cells #[.int .i64 p, .int .i64 q] 36)).heap[w.heap.size]? = some (.cells #[.int .i64 p, .int .i64 q] 36 (0, 0))) := heap_alloc_new _ _
  have HB1 : Hid (Below w.heap.size w (w.alloc (.cells #[.int .i64 p, .int .i64 q] 36))) := below_box _
  obtain ⟨rc, hrc⟩ : ∃ x, x = (joinMR ms (key, p, q)).1 := ⟨_, rfl⟩
  obtain ⟨rr, hrr⟩ : ∃ x, x = (joinMR ms (key, p, q)).2 := ⟨_, rfl⟩
  rw [← hrc, ← hrr]
  have HJC : Hid (rc = (joinMR ms (key, p, q)).1) := hrc
  have HJR : Hid (rr = (joinMR ms (key, p, q)).2) := hrr
  clear h hr1 hri hl hrc hrr
  go_enter Try.func43, Try.ntmps43
  go_wp2_with (fail)
  refine hP.mono ?_
  clear hP
  rintro e w2 ⟨at', fo, rfl, HP, hb2⟩
  have HB2 : Hid (Below w.heap.size w w2) := HB1.out.trans (hb2.mono HB1.out.size)
  have HT2 := keepb T1.out hb2
  have HR2 : Hid (w2.ownsRow lo 68 3 (.slice va n vc) n (mcells ms)) := HR1.out.kept (grown_of_below hb2) (by cases Value.ownBlock (.slice va n vc) <;> simp)
  clear hb2
  cases fo
  · obtain ⟨q0, q1⟩ := cells2 HT2.out
    have hH := hasRef_any n vc w.heap.size va ms p q w2 (by omega) (mat_row HR2.out HN.out) q0 q1 (lt_of_block HT2.out)
    obtain ⟨ar, har⟩ : ∃ b, b = (ms.any fun m => decide (m.2 = (p, q))) := ⟨_, rfl⟩
    rw [← har] at hH
    have HAR : Hid (ar = (ms.any fun m => decide (m.2 = (p, q)))) := har
    have HNK : Hid ((ms.any fun m => decide (m.1 = key)) = false) := none_key rfl (HP.out.miss rfl)
    clear har q0 q1
    cases ar
    · have HNO : Hid (¬ ((ms.any fun m => decide (m.1 = key)) = true ∨ (ms.any fun m => decide (m.2 = (p, q))) = true)) := by
        rintro (e | e)
        · rw [HNK.out] at e; cases e
        · rw [← HAR.out] at e; cases e
      by_cases h8 : 8 ≤ n
      · have hc : joinMR ms (key, p, q) = (2, []) := by
          unfold joinMR
          rw [if_neg HNO.out, if_pos (by rw [HN.out]; exact h8)]
        have HRC : Hid (rc = 2) := by show _ = _; rw [HJC.out, hc]
        have HRR : Hid (rr = []) := by show _ = _; rw [HJR.out, hc]
        have h8i : (8 : Int) ≤ (n : Int) := by omega
        clear hc
        go_wp2_with (first | (go_at_call 61; (with_reducible refine hH.mono ?_); clear hH; rintro e w3 ⟨rfl, hb3⟩; have HB3 : Hid (Below w.heap.size w w3) := HB2.out.trans (hb3.mono HB2.out.size); clear hb3))
        exact bodyPost_ret (v := .tuple #[.slice none 0 0, .int .i64 2]) (by simp [results, Try.results43, go_sem]) rfl (jn_code HRC.out HRR.out HB3.out)
      · have hc : joinMR ms (key, p, q) = (0, ms.take at' ++ (key, p, q) :: ms.drop at') := by
          unfold joinMR
          rw [if_neg HNO.out, if_neg (by rw [HN.out]; exact h8), insM_split (k := at') HP.out.le HP.out.ahead (fun hh => by have := HP.out.behind at' (Nat.le_refl _) hh; show ¬ (ms.getD at' Z3).1 < key; omega)]
        have HRC : Hid (rc = 0) := by show _ = _; rw [HJC.out, hc]
        have HRR : Hid (rr = ms.take at' ++ (key, p, q) :: ms.drop at') := by show _ = _; rw [HJR.out, hc]
        have h8i : ¬ (8 : Int) ≤ (n : Int) := by omega
        have hat : at' ≤ n := by rw [← HN.out]; exact HP.out.le
        clear hc
        go_wp2_with (first
          | (go_at_call 61; (with_reducible refine hH.mono ?_); clear hH; rintro e w3 ⟨rfl, hb3⟩; have HB3 : Hid (Below w.heap.size w w3) := HB2.out.trans (hb3.mono HB2.out.size); obtain ⟨y0, y1⟩ := cells2 (keepb HT2.out hb3).out; have HR3 : Hid (w3.ownsRow lo 68 3 (.slice va n vc) n (mcells ms)) := HR2.out.kept (grown_of_below hb3) (by cases Value.ownBlock (.slice va n vc) <;> simp); have hIN := insert_any n vc lo w3.heap.size at' va ms (key, p, q) (w3.alloc (.cells #[.int .i64 key, .int .i64 p, .int .i64 q] 68)) (by omega) hat (by have := HB3.out.size; simp; omega) (HR3.out.alloc _) (heap_alloc_new _ _) (fun g e => by have := HGL.out g e; have := HB3.out.size; omega); rw [← HRR.out] at hIN; clear hb3)
          | (go_at_call 63; (with_reducible refine hIN.mono ?_); clear hIN; rintro e w5 ⟨g5, c5, rfl, hO5, hg5⟩; have HFI : Hid (JnO w w5 (.returned (.tuple #[.slice (some ⟨g5, 0, none⟩) rr.length c5, .int .i64 0])) lo (.slice va n vc) rc rr) := ⟨_, _, by rw [HRC.out], hO5, grow_join HB3.out (below_box _) hg5⟩; clear hO5 hg5))
        exact bodyPost_ret (v := .tuple #[.slice (some ⟨g5, 0, none⟩) rr.length c5, .int .i64 0]) (by simp [results, Try.results43, go_sem]) rfl HFI.out
    · have hc : joinMR ms (key, p, q) = (7, []) := by
        unfold joinMR
        rw [if_pos (.inr HAR.out.symm)]
      have HRC : Hid (rc = 7) := by show _ = _; rw [HJC.out, hc]
      have HRR : Hid (rr = []) := by show _ = _; rw [HJR.out, hc]
      clear hc
      go_wp2_with (first | (go_at_call 61; (with_reducible refine hH.mono ?_); clear hH; rintro e w3 ⟨rfl, hb3⟩; have HB3 : Hid (Below w.heap.size w w3) := HB2.out.trans (hb3.mono HB2.out.size); clear hb3))
      exact bodyPost_ret (v := .tuple #[.slice none 0 0, .int .i64 7]) (by simp [results, Try.results43, go_sem]) rfl (jn_code HRC.out HRR.out HB3.out)
  · have hc : joinMR ms (key, p, q) = (7, []) := by
      unfold joinMR
      obtain ⟨ha, hk⟩ := HP.out.hit rfl
      rw [if_pos (.inl (any_key rfl ha hk))]
    have HRC : Hid (rc = 7) := by show _ = _; rw [HJC.out, hc]
    have HRR : Hid (rr = []) := by show _ = _; rw [HJR.out, hc]
    clear hc
    go_wp2
    exact bodyPost_ret (v := .tuple #[.slice none 0 0, .int .i64 7]) (by simp [results, Try.results43, go_sem]) rfl (jn_code HRC.out HRR.out HB2.out)

end Go.Proofs.Ytgfhnmjpkanikaa
