/- Members that are drawn: the specification's l6Right and l6Bent keep their contracts. -/
import Derived.Test.YtgfhnmjpkanikaaFn
import Derived.Test.YtgfhnmjpkanikaaFm
import Derived.Test.YtgfhnmjpkanikaaEj
namespace Go.Proofs.Ytgfhnmjpkanikaa
open Go.RowKit Go.Shelf Go.Maps Go.WideMaps

/-- Members in memory of their own, laid since v. -/
structure MdS (w v V : World) (SB : Nat) (ca : Option Addr) (cn cc t : Nat) (va : Option Addr) (vc : Nat) (ms : List Mb) : Prop where
  src : Src w V SB ca cn cc t
  chg : Chg v V SB (SB + 1)
  own : V.ownsRow v.heap.size 38 3 (.slice va ms.length vc) ms.length (mcells ms)
  ord : SB < v.heap.size
section
variable {w v V V' : World} {SB cn cc t t' vc g : Nat} {ca va : Option Addr} {ms : List Mb}
theorem MdS.draw (h : MdS w v V SB ca cn cc t va vc ms) (hS : Src w V' SB ca cn cc t') (hc : Chg V V' SB (SB + 1)) : MdS w v V' SB ca cn cc t' va vc ms := ⟨hS, h.chg.trans hc, hc.row1 h.own h.ord, h.ord⟩
theorem MdS.step (h : MdS w v V SB ca cn cc t va vc ms) (hb : Below V.heap.size V V') : MdS w v V' SB ca cn cc t va vc ms := h.draw (h.src.step hb) (Chg.of_below hb _ _)
theorem mat_own {W : World} {base n c : Nat} {a : Option Addr} {l : List Mb} (h : W.ownsRow base 38 3 (.slice a n c) n (mcells l)) (hn : l.length = n) : MAt W a n l := by
  by_cases h0 : n = 0
  · exact ⟨hn, .inl h0⟩
  obtain ⟨b, cap, e⟩ := Joins.ownsRow_form h (by omega)
  cases e
  exact MAt.owned h hn
theorem MdS.at (h : MdS w v V SB ca cn cc t va vc ms) : MAt V va ms.length ms := mat_own h.own rfl
theorem MdS.first (hS : Src w v SB ca cn cc t) : MdS w v (v.alloc (.cells #[] 38)) SB ca cn cc t (some ⟨v.heap.size, 0, none⟩) 0 [] :=
  ⟨hS.step (below_box _), Chg.of_below (below_box _) _ _, ⟨rfl, .inr ⟨v.heap.size, 0, #[], rfl, Nat.le_refl _, heap_alloc_new _ _, Nat.le_refl _, by unfold maxLen; omega, rfl, rfl⟩⟩, hS.lt⟩
theorem MdS.cap (h : MdS w v V SB ca cn cc t (some ⟨g, 0, none⟩) vc ms) : ms.length ≤ vc ∧ vc ≤ maxLen := row_cap h.own
theorem MdS.form (h : MdS w v V SB ca cn cc t va vc ms) (hn : 0 < ms.length) : ∃ g, va = some ⟨g, 0, none⟩ := by
  obtain ⟨b, cap, e⟩ := Joins.ownsRow_form h.own hn
  exact ⟨b, by injection e⟩
end
/-- Members that were drawn. -/
def OutMd (w v : World) (SB : Nat) (ca : Option Addr) (cn cc T : Nat) (e : Ending) (v' : World) (N : Nat) : Prop :=
  ∃ (ms : List Mb) (g vc t' : Nat), e = .returned (.slice (some ⟨g, 0, none⟩) ms.length vc) ∧ t' ≤ T ∧ ms.length ≤ N ∧ Hid (MdS w v v' SB ca cn cc t' (some ⟨g, 0, none⟩) vc ms)

set_option maxRecDepth 20000 in
set_option maxHeartbeats 8000000 in
theorem l6Right_any (SB cn cc t : Nat) (ca : Option Addr) (l0 : List Int) (w v : World) (ht : t ≤ 700) (hcn : cn ≤ 1048576) (hB : BAt w ca cn l0) (h : Src w v SB ca cn cc t) :
    Calls Try.prog 32 #[.pointer (some ⟨SB, 0, none⟩)] v fun e v' => OutMd w v SB ca cn cc (t + 17) e v' 8 := by
  have HBA : Hid (BAt w ca cn l0) := hB
  have HD0 : Hid (MdS w v (v.alloc (.cells #[] 38)) SB ca cn cc t (some ⟨v.heap.size, 0, none⟩) 0 []) := MdS.first h
  have hx := l1Next_any SB cn cc t ca l0 9 w (v.alloc (.cells #[] 38)) (by omega) (by omega) hcn hB HD0.out.src
  clear hB h
  go_enter Try.func32, Try.ntmps32
  go_wp2_with (first
    | (go_at_call 17; (with_reducible refine hx.mono ?_); clear hx; rintro e v6 ⟨r, rfl, ⟨a6, b6⟩, hS6, hc6⟩; have b6' : r < 9 := b6 (by omega); clear b6; have HD6 : Hid (MdS w v v6 SB ca cn cc (t + 1) (some ⟨v.heap.size, 0, none⟩) 0 []) := HD0.out.draw hS6 hc6; clear hS6 hc6))
  obtain ⟨k6, hk6⟩ : ∃ k : Nat, r = (k : Int) := ⟨r.toNat, by omega⟩
  rw [hk6]
  have hk6b : k6 ≤ 8 := by omega
  clear hk6 a6 b6' HD0
  go_loopw [3, 4] (fun o i wr => ∃ (k g vc : Nat) (ms : List Mb), k ≤ 8 ∧ o = .slice (some ⟨g, 0, none⟩) ms.length vc ∧ i = .int .i64 k ∧ Hid (∃ t' : Nat, MdS w v wr SB ca cn cc t' (some ⟨g, 0, none⟩) vc ms ∧ ms.length ≤ 8 ∧ Rises ms ∧ t' + 2 * k ≤ t + 17)) (fun o i _ => (intOf i).toNat)
  case atStart => exact ⟨k6, v.heap.size, 0, [], by omega, rfl, rfl, t + 1, HD6.out, by simp, (fun i j hij hj => by simp at hj), by omega⟩
  case round =>
    obtain ⟨k, g, vc, ms, hk, rfl, rfl, HI⟩ := hrel
    obtain ⟨t', hD, hl8, hRi, htk⟩ := HI.out
    have HD : Hid (MdS w v wr SB ca cn cc t' (some ⟨g, 0, none⟩) vc ms) := hD
    have HRi : Hid (Rises ms) := hRi
    clear HI hD hRi HD6
    by_cases hk0 : 0 < k
    · obtain ⟨k', rfl⟩ : ∃ k', k = k' + 1 := ⟨k - 1, by omega⟩
      have hki : (0 : Int) < ((k' + 1 : Nat) : Int) := by omega
      have hx := l1Next_any SB cn cc t' ca l0 6 w wr (by omega) (by omega) hcn HBA.out HD.out.src
      go_upto_if 30 with (first
        | (go_at_call 17; have hq := hx; clear hx; (with_reducible refine hq.mono ?_); clear hq; rintro e v7 ⟨r7, rfl, ⟨a7, b7⟩, hS7, hc7⟩; have b7' : r7 < 6 := b7 (by omega); clear b7; have hw7 := IntWalk.i64_in (1 + r7) (by omega); have HD7 : Hid (MdS w v v7 SB ca cn cc (t' + 1) (some ⟨g, 0, none⟩) vc ms) := HD.out.draw hS7 hc7; clear hS7 hc7; have hx2 := l1Next_any SB cn cc (t' + 1) ca l0 9 w v7 (by omega) (by omega) hcn HBA.out HD7.out.src)
        | (go_at_call 17; have hq := hx2; clear hx2; (with_reducible refine hq.mono ?_); clear hq; rintro e v8 ⟨r8, rfl, ⟨a8, b8⟩, hS8, hc8⟩; have b8' : r8 < 9 := b8 (by omega); clear b8; have hw8 := IntWalk.i64_in (1 + r8) (by omega); have HD8 : Hid (MdS w v (v8.alloc (.cells #[.int .i64 (1 + r7), .int .i64 (1 + r8), .int .i64 0] 38)) SB ca cn cc (t' + 1 + 1) (some ⟨g, 0, none⟩) vc ms) := (HD7.out.draw hS8 hc8).step (below_box _); clear hS8 hc8; obtain ⟨y0, y1, y2⟩ := cells3 (heap_alloc_new v8 (.cells #[.int .i64 (1 + r7), .int .i64 (1 + r8), .int .i64 0] 38)); have hj := l6Join_any g ms.length vc ms (1 + r7) (1 + r8) 0 (v8.alloc (.cells #[.int .i64 (1 + r7), .int .i64 (1 + r8), .int .i64 0] 38)) (by omega) HD8.out.cap.1 HD8.out.cap.2 HD8.out.at (HD8.out.own.lt g rfl).2 HRi.out)
        | (go_at_call 48; (with_reducible refine hj.mono ?_); clear hj; rintro e v9 ⟨va, vc9, rfl, hO9, hb9⟩; have HJ : Hid (MdS w v v9 SB ca cn cc (t' + 1 + 1) (some ⟨g, 0, none⟩) vc ms) := HD8.out.step hb9; have HO9 : Hid (v9.ownsRow v.heap.size 38 3 (.slice va (joinMR ms (1 + r7, 1 + r8, 0)).2.length vc9) (joinMR ms (1 + r7, 1 + r8, 0)).2.length (mcells (joinMR ms (1 + r7, 1 + r8, 0)).2)) := Joins.ownsRow_le hO9 HD8.out.chg.size; clear hO9 hb9))
      obtain ⟨rc, hrc⟩ : ∃ x, x = (joinMR ms (1 + r7, 1 + r8, 0)).1 := ⟨_, rfl⟩
      obtain ⟨rr, hrr⟩ : ∃ x, x = (joinMR ms (1 + r7, 1 + r8, 0)).2 := ⟨_, rfl⟩
      rw [← hrc]
      rw [← hrr] at HO9 ⊢
      by_cases hz : rc = 0
      · have hp := join_parts (hrc.symm.trans hz)
        have HP : Hid (rr.length ≤ 8 ∧ Rises rr) := by
          rw [hrr, hp.1]
          exact ⟨by rw [ins_length]; omega, (rises_iff _).2 (ins_up ((rises_iff _).1 HRi.out) hp.2.1)⟩
        obtain ⟨g9, rfl⟩ : ∃ g9, va = some ⟨g9, 0, none⟩ := by
          obtain ⟨b, cap, e⟩ := Joins.ownsRow_form HO9.out (by rw [hrr, hp.1, ins_length]; omega)
          exact ⟨b, by injection e⟩
        subst hz
        clear hrc hrr hp
        go_wp2
        go_roundw
        case rel => exact ⟨k', g9, vc9, rr, by omega, rfl, by go_num, t' + 1 + 1, ⟨HJ.out.src, HJ.out.chg, HO9.out, HJ.out.ord⟩, HP.out.1, HP.out.2, by omega⟩
        case measure => simp [intOf]
      · have hzb : (rc == 0) = false := by simpa using hz
        clear hrc hrr
        go_wp2
        go_roundw
        case rel => exact ⟨k', g, vc, ms, by omega, rfl, by go_num, t' + 1 + 1, HJ.out, hl8, HRi.out, by omega⟩
        case measure => simp [intOf]
    · obtain rfl : k = 0 := by omega
      go_wp2
      go_ret
      exact ⟨ms, g, vc, t', rfl, by omega, hl8, HD.out⟩

end Go.Proofs.Ytgfhnmjpkanikaa
