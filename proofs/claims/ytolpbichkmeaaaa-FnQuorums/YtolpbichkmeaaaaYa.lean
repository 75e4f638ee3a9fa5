/- Keys that are drawn, and quorums that are drawn, right or bent. -/
import Derived.Test.YtolpbichkmeaaaaDr
import Derived.Test.YtolpbichkmeaaaaXc
import Derived.Test.YtolpbichkmeaaaaXm
namespace Go.Proofs.Ytolpbichkmeaaaa
open Go.RowKit Go.Maps Go.WideMaps

/-- Numbers that were drawn: in memory of their own, the source in block SB. -/
structure Dn (w v V : World) (SB : Nat) (ca : Option Addr) (cn cc t : Nat) (a : Option Addr) (n c : Nat) (ms : List Int) : Prop where
  src : Src w V SB ca cn cc t
  chg : Chg v V SB (SB + 1)
  row : V.ownsRow v.heap.size 2 1 (.slice a n c) n (ints ms)
  len : ms.length = n
  sl : SB < v.heap.size
section
variable {w v v0 V V' : World} {SB : Nat} {ca a : Option Addr} {cn cc t t' n c : Nat} {ms : List Int}
theorem chgMore {lo hi B : Nat} (h : Chg v V lo hi) (hb : Below B V V') (hB : v.heap.size ≤ B) : Chg v V' lo hi := ⟨hb.os.trans h.os, hb.tape.trans h.tape, hb.output.trans h.output, Nat.le_trans h.size hb.size, fun b hbs ho => (hb.block b (by omega)).trans (h.block b hbs ho)⟩
theorem Dn.step (h : Dn w v V SB ca cn cc t a n c ms) (hb : Below V.heap.size V V') : Dn w v V' SB ca cn cc t a n c ms :=
  ⟨h.src.step hb, chgMore h.chg hb h.chg.size, ((own1_new h.row).below hb).t, h.len, h.sl⟩
theorem Dn.draw (h : Dn w v V SB ca cn cc t a n c ms) (hS : Src w V' SB ca cn cc t') (hc : Chg V V' SB (SB + 1)) : Dn w v V' SB ca cn cc t' a n c ms :=
  ⟨hS, h.chg.trans hc, hc.row1 h.row h.sl, h.len, h.sl⟩
theorem Dn.base (h : Dn w v V SB ca cn cc t a n c ms) (hc : Chg v0 v SB (SB + 1)) (hs : SB < v0.heap.size) : Dn w v0 V SB ca cn cc t a n c ms :=
  ⟨h.src, hc.trans h.chg, Joins.ownsRow_le h.row hc.size, h.len, hs⟩
theorem Dn.at (h : Dn w v V SB ca cn cc t a n c ms) : IAt V a n ms := IAt.owned h.row h.len
theorem Dn.more {g : Nat} (h : Dn w v V SB ca cn cc t (some ⟨g, 0, none⟩) n c ms) {x : Int} (hl : n ≤ 900) :
    ∃ g3 c3 w5, (Builtin.append_ #[24, 24] 24 #[.slice (some ⟨g, 0, none⟩) n c, .slice (some ⟨V.heap.size, 0, none⟩) 1 1]).run Try.prog (V.alloc (.cells #[.int .i64 x] 2)) = .ok (.slice (some ⟨g3, 0, none⟩) (n + 1) c3) w5 ∧ Hid (Dn w v w5 SB ca cn cc t (some ⟨g3, 0, none⟩) (n + 1) c3 (ms ++ [x]) ∧ Chg V w5 g (g + 1)) := by
  have hbv : Below v.heap.size V (V.alloc (.cells #[.int .i64 x] 2)) := (below_box _).mono h.chg.size
  obtain ⟨i0, hi, hz0, hz1, hz2⟩ := info_parts Try.infoI64
  obtain ⟨v', w', hrun, hown', hgrow, hnil⟩ := run_append_own (P := Try.prog) (V.alloc (.cells #[.int .i64 x] 2)) v.heap.size 24 24 2 i0 (.int .i64 0) 1 8 Try.underlying24 hi hz0 hz1 hz2 rfl (by decide) (.slice (some ⟨g, 0, none⟩) n c) n (ints ms) (h.row.alloc _) ⟨V.heap.size, 0, none⟩ 1 1 [.int .i64 x] rfl (news1 (heap_alloc_new _ _)) one1 (by unfold maxLen; omega) (by omega) (by have := h.chg.size; simp; omega)
  rcases id hown'.2 with ⟨e1, _⟩ | ⟨g3, c3, cur, e1, _⟩
  · have := (hnil.1 e1).1; cases this
  subst e1
  have hg := (h.row.lt g rfl).1
  have hb5 : Below v.heap.size V w' := hbv.grown hgrow (by have := h.chg.size; simp; omega) (fun k hk => (h.row.lt k hk).1)
  refine ⟨g3, c3, w', hrun, ⟨⟨(hb5.block SB h.sl).trans h.src.box, h.src.bel.trans (hb5.mono (by have := h.src.sb; have := h.sl; omega)), h.src.sb⟩, chgMore h.chg hb5 (Nat.le_refl _), ?_, by simp [h.len], h.sl⟩, ?_⟩
  · rw [show ints (ms ++ [x]) = ints ms ++ [.int .i64 x] by simp [ints]]; exact hown'
  · refine (Chg.of_below (below_box _) g (g + 1)).trans (Chg.of_grown hgrow (fun k hk => ?_))
    have : g = k := by simpa [Value.ownBlock] using hk
    omega
end

set_option maxRecDepth 20000 in
set_option maxHeartbeats 2000000 in
theorem l10DrawKeys_any (SB cn cc t m : Nat) (ca : Option Addr) (l : List Int) (w v : World) (hm : m ≤ 8) (ht : t ≤ 700) (hcn : cn ≤ 1048576) (hB : BAt w ca cn l) (h : Src w v SB ca cn cc t) :
    Calls Try.prog 23 #[.pointer (some ⟨SB, 0, none⟩), .int .i64 m] v fun e v' => ∃ g c ms, e = .returned (.slice (some ⟨g, 0, none⟩) m c) ∧ Hid (Dn w v v' SB ca cn cc (t + m) (some ⟨g, 0, none⟩) m c ms) := by
  have HB : Hid (BAt w ca cn l) := hB
  have HD0 : Hid (Dn w v (v.alloc (.cells #[] 2)) SB ca cn cc t (some ⟨v.heap.size, 0, none⟩) 0 0 []) := ⟨h.step (below_box _), Chg.of_below (below_box _) _ _, own_empty (heap_alloc_new _ _) (Nat.le_refl _), rfl, h.lt⟩
  clear h hB
  go_enter Try.func23, Try.ntmps23
  go_wp2
  go_loopw [1, 5, 6] (fun i u z V => ∃ (k j g c : Nat) (ms : List Int) (q : Int), k + j = m ∧ i = .int .i64 (k : Int) ∧ u = .slice (some ⟨g, 0, none⟩) j c ∧ z = .int .i64 q ∧ 0 ≤ q ∧ q ≤ 3 * j ∧ Hid (Dn w v V SB ca cn cc (t + j) (some ⟨g, 0, none⟩) j c ms)) (fun i _ _ _ => (intOf i).toNat)
  case atStart => exact ⟨m, 0, v.heap.size, 0, [], 0, by omega, rfl, rfl, rfl, by omega, by omega, HD0⟩
  case round =>
    clear HD0
    obtain ⟨k, j, g, c, ms, q, hkj, rfl, rfl, rfl, hq0, hq1, HD⟩ := hrel
    by_cases hk1 : 0 < k
    · obtain ⟨k', rfl⟩ : ∃ k', k = k' + 1 := ⟨k - 1, by omega⟩
      have hkp : (0 : Int) < ((k' + 1 : Nat) : Int) := by omega
      have hx := l1Next_any SB cn cc (t + j) ca l 3 w wr (by omega) (by omega) hcn HB.out HD.out.src
      have m1 : IntKind.i64.wrap (q + 1) = q + 1 := IntWalk.i64_in _ (by omega)
      go_wp2_with (first
        | (go_at_call 24; (with_reducible refine hx.mono ?_); clear hx; rintro e v3 ⟨r, rfl, ⟨hr0, hr1⟩, hS, hc⟩; have hr3 : r < 3 := hr1 (by omega); have m2 : IntKind.i64.wrap (q + 1 + r) = q + 1 + r := IntWalk.i64_in _ (by omega); obtain ⟨g3, c3, v5, hrun, HL5⟩ := (HD.out.draw hS hc).more (x := q + 1 + r) (by omega); clear hS hc)
        | (at_builtin; go_must (refine wpList_append_runC (by rfl) _ _ _ (by rfl) (by rfl) (by rfl) hrun ?_); clear hrun))
      go_roundw
      case rel => exact ⟨k', j + 1, g3, c3, ms ++ [q + 1 + r], q + 1 + r, by omega, by go_num, rfl, rfl, by omega, by omega, HL5.out.1⟩
      case measure => simp [intOf]; try omega
    · obtain rfl : k = 0 := by omega
      obtain rfl : j = m := by omega
      go_wp2
      go_ret
      exact ⟨g, c, ms, rfl, HD⟩

end Go.Proofs.Ytolpbichkmeaaaa
