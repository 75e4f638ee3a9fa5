/- A tree and locks are drawn. -/
import Derived.Test.YtinlhghlmfcbfaaWd
import Derived.Test.YtinlhghlmfcbfaaNh
import Derived.Test.YtinlhghlmfcbfaaEe
namespace Go.Proofs.Ytinlhghlmfcbfaa
open Go.RowKit Go.Maps Go.WideMaps

/-- A tree and numbers that were drawn: each in memory of its own. -/
structure Dl (w v V : World) (SB : Nat) (ca : Option Addr) (cn cc t g c : Nat) (ms : List Mb) (lo g2 c2 : Nat) (ls : List Int) : Prop where
  d : Dt w v V SB ca cn cc t g c ms
  r : V.ownsRow lo 2 1 (.slice (some ⟨g2, 0, none⟩) ls.length c2) ls.length (ints ls)
  l : g < lo ∧ v.heap.size ≤ lo
section
variable {w v V V' : World} {SB : Nat} {ca : Option Addr} {cn cc t t' g c lo g2 c2 : Nat} {ms : List Mb} {ls : List Int}
theorem Dl.step (h : Dl w v V SB ca cn cc t g c ms lo g2 c2 ls) (hb : Below V.heap.size V V') : Dl w v V' SB ca cn cc t g c ms lo g2 c2 ls := ⟨h.d.step hb, h.r.kept (grown_of_below hb) (by simp [Value.ownBlock]), h.l⟩
theorem Dl.draw (h : Dl w v V SB ca cn cc t g c ms lo g2 c2 ls) (hd : Dt w v V' SB ca cn cc t' g c ms) (hc : Chg V V' SB (SB + 1)) : Dl w v V' SB ca cn cc t' g c ms lo g2 c2 ls := ⟨hd, hc.row1 h.r (by have := h.d.sl; have := h.l.2; omega), h.l⟩
theorem Dl.more (h : Dl w v V SB ca cn cc t g c ms lo g2 c2 ls) {x : Int} (hl : ls.length ≤ 900) :
    ∃ g3 c3 w5, (Builtin.append_ #[30, 30] 30 #[.slice (some ⟨g2, 0, none⟩) ls.length c2, .slice (some ⟨V.heap.size, 0, none⟩) 1 1]).run Try.prog (V.alloc (.cells #[.int .i64 x] 2)) = .ok (.slice (some ⟨g3, 0, none⟩) (ls.length + 1) c3) w5 ∧ Hid (Dl w v w5 SB ca cn cc t g c ms lo g3 c3 (ls ++ [x])) := by
  have hlo : lo ≤ V.heap.size := by have := (h.r.lt g2 rfl); omega
  obtain ⟨g3, c3, w5, hrun, HC⟩ := int_added (k := x) (X := V.heap.size) (h.r.alloc (.cells #[.int .i64 x] 2)) (heap_alloc_new _ _) (by omega) (by simp; omega)
  have hg2 := (h.r.lt g2 rfl).1
  have hb5 : Below lo V w5 := ((below_box _).mono hlo).grown HC.out.2 (by simp; omega) (fun k hk => (h.r.lt k hk).1)
  refine ⟨g3, c3, w5, hrun, ⟨⟨(hb5.block SB (by have := h.d.sl; have := h.l.2; omega)).trans h.d.src.box, h.d.src.bel.trans (hb5.mono (by have := h.d.src.sb; have := h.d.sl; have := h.l.2; omega)), h.d.src.sb⟩, h.d.chg.moreB hb5 h.l.2, ?_, h.d.sl⟩, ?_, h.l⟩
  · exact (h.d.row.alloc _).kept HC.out.2 (.inr (by simp [Value.ownBlock]; have := h.l.1; omega))
  · rw [show (ls ++ [x]).length = ls.length + 1 by simp]; exact HC.out.1
end
theorem fineI_snoc {ls : List Int} {x : Int} (h : FineI ls) (hx : (Lit.int .i64 x).wf = true) : FineI (ls ++ [x]) := fun j => by
  by_cases e : j < ls.length
  · have : (ls ++ [x]).getD j 0 = ls.getD j 0 := by simp [List.getD, List.getElem?_append_left e]
    rw [this]; exact h j
  · by_cases e2 : j = ls.length
    · have : (ls ++ [x]).getD j 0 = x := by simp [List.getD, e2]
      rw [this]; exact hx
    · rw [List.getD, List.getElem?_eq_none (by simp; omega)]
      exact wf_lim (by decide) (by decide)
theorem fineI_nil : FineI [] := fun j => wf_lim (by simp) (by simp)
theorem made21 : (madeCells (Value.int .i64 0).cells (21 * 1)).toList = ints (List.replicate 21 0) := by kernel_rfl
theorem fineI_zero : FineI (List.replicate 21 0) := fun j => by
  have : (List.replicate 21 (0 : Int)).getD j 0 = 0 := by
    rw [List.getD, List.getElem?_replicate]
    split <;> rfl
  rw [this]
  exact wf_lim (by decide) (by decide)
def OutBest (w w' : World) (e : Ending) : Prop := ∃ (g c n g2 c2 m : Nat) (ms : List Mb) (ls : List Int), e = .returned (.tuple #[.slice (some ⟨g, 0, none⟩) n c, .slice (some ⟨g2, 0, none⟩) m c2]) ∧ Hid (ms.length = n ∧ n ≤ c ∧ c ≤ maxLen ∧ MAt w' (some ⟨g, 0, none⟩) n ms) ∧ Hid (KT ms ∧ FineI ls ∧ ls.length = m ∧ m ≤ 21 ∧ IAt w' (some ⟨g2, 0, none⟩) m ls) ∧ Hid (Below w.heap.size w w')

set_option maxRecDepth 20000 in
set_option maxHeartbeats 4000000 in
theorem drawBest_any (cn cc : Nat) (ca : Option Addr) (l : List Int) (w : World) (hcn : cn ≤ 1048576) (hB : BAt w ca cn l) :
    Calls Try.prog 14 #[.slice ca cn cc] w fun e w' => OutBest w w' e := by
  have hs := l1Source_any ca cn cc w
  have HB : Hid (BAt w ca cn l) := hB
  obtain ⟨i0, hi, hz0, hz1, hz2⟩ := info_parts Try.infoI64
  clear hB
  go_enter Try.func14, Try.ntmps14
  go_wp2_with (first
    | (go_at_call 30; (with_reducible refine hs.mono ?_); clear hs; rintro e v ⟨rfl, hS⟩; have hb := l9Bent_any w.heap.size cn cc 0 ca l w v (by omega) hcn HB.out hS; clear hS)
    | (go_at_call 31; (with_reducible refine hb.mono ?_); clear hb; rintro e v2 ⟨t, g, c, ms, rfl, ht, hk, hD⟩; obtain ⟨n, hn⟩ : ∃ n, n = ms.length := ⟨_, rfl⟩; rw [← hn]; have HN : Hid (ms.length = n) := hn.symm; have HK : Hid (KT ms) := hk; have HL0 : Hid (Dl w v (v2.alloc (.cells #[] 2)) w.heap.size ca cn cc t g c ms v2.heap.size v2.heap.size 0 []) := ⟨hD.step (below_box _), own_empty (heap_alloc_new _ _) (Nat.le_refl _), (hD.row.lt g rfl).2, hD.chg.size⟩; have hx := l1Next_any w.heap.size cn cc t ca l 3 w (v2.alloc (.cells #[] 2)) (by omega) (by omega) hcn HB.out HL0.out.d.src; clear hn hk hD)
    | (go_at_call 32; (with_reducible refine hx.mono ?_); clear hx; rintro e v3 ⟨k0, rfl, hk0, hS, hc⟩; have HL1 : Hid (Dl w v v3 w.heap.size ca cn cc (t + 1) g c ms v2.heap.size v2.heap.size 0 []) := HL0.out.draw (HL0.out.d.draw hS hc) hc; clear hS hc))
  go_loopw [6, 7] (fun u i V => ∃ (k t' g2 c2 m : Nat) (ls : List Int), i = .int .i64 (k : Int) ∧ u = .slice (some ⟨g2, 0, none⟩) m c2 ∧ m + k ≤ 2 ∧ t' + 2 * k ≤ t + 10 ∧ Hid (ls.length = m ∧ FineI ls) ∧ Hid (Dl w v V w.heap.size ca cn cc t' g c ms v2.heap.size g2 c2 ls)) (fun _ i _ => (intOf i).toNat)
  case atStart =>
    have h12 := hk0.2 (by omega)
    obtain ⟨k, rfl⟩ := Int.eq_ofNat_of_zero_le hk0.1
    exact ⟨k, t + 1, _, 0, 0, [], rfl, rfl, by omega, by omega, ⟨rfl, fineI_nil⟩, HL1.out⟩
  case round =>
    obtain ⟨k, t', g2, c2, m, ls, rfl, rfl, hmk, htk, HM, HL⟩ := hrel
    by_cases hk1 : 0 < k
    · obtain ⟨k', rfl⟩ : ∃ k', k = k' + 1 := ⟨k - 1, by omega⟩
      have hkp : (0 : Int) < ((k' + 1 : Nat) : Int) := by omega
      have hid := l9DrawId_any w.heap.size cn cc t' g c n ca l ms w v wr (by omega) hcn HB.out HN.out HK.out HL.out.d
      go_wp2_with (first
        | (go_at_call 33; (with_reducible refine hid.mono ?_); clear hid; rintro e v4 ⟨x, t4, rfl, ht4, hwx, HD4, HC4⟩; obtain ⟨g3, c3, v5, hrun, HL5⟩ := (HL.out.draw HD4.out HC4.out).more (x := x) (by have := HM.out.1; omega); rw [HM.out.1] at hrun; have HX : Hid ((Lit.int .i64 x).wf = true) := hwx; clear hwx)
        | (at_builtin; go_must (refine wpList_append_runC (by rfl) _ _ _ (by rfl) (by rfl) (by rfl) hrun ?_); clear hrun))
      go_roundw
      case rel => exact ⟨k', t4, g3, c3, m + 1, ls ++ [x], by go_num, rfl, by omega, by omega, ⟨by rw [← HM.out.1]; simp, fineI_snoc HM.out.2 HX.out⟩, HL5.out⟩
      case measure => simp [intOf]; try omega
    · obtain rfl : k = 0 := by omega
      have hch := l1Chance_any w.heap.size cn cc t' ca l 30 w wr (by omega) (by omega) hcn HB.out HL.out.d.src
      go_wp2_with (first
        | (go_at_call 34; (with_reducible refine hch.mono ?_); clear hch; rintro e v4 ⟨cb, rfl, hS, hc⟩; have HL4 : Hid (Dl w v v4 w.heap.size ca cn cc (t' + 1) g c ms v2.heap.size g2 c2 ls) := HL.out.draw (HL.out.d.draw hS hc) hc; clear hS hc)
        | (at_make; refine wpList_make_full _ rfl _ _ 30 rfl v4.heap.size 2 i0 (.int .i64 0) 1 Try.underlying30 hi hz0 hz1 _ _ _ _ 21 rfl rfl (by omega) (by omega) (by rw [hz2]; omega) (by unfold maxLen; omega) (Nat.le_refl _) ?_; intro v9 ho9 hg9; have hb9 : Below v4.heap.size v4 v9 := (Below.refl _ _).grown hg9 (Nat.le_refl _) (fun k h => (by cases h)); rw [made21] at ho9; have HO9 : Hid (v9.ownsRow v4.heap.size 2 1 (.slice (some ⟨v4.heap.size, 0, none⟩) 21 21) 21 (ints (List.replicate 21 0))) := ho9; have HD9 : Hid (Dt w v v9 w.heap.size ca cn cc (t' + 1) g c ms) := HL4.out.d.step hb9; clear hb9 ho9 hg9))
      · have hnat := HD9.out.nat
        rw [HN.out] at hnat
        exact bodyPost_ret (v := .tuple #[.slice (some ⟨g, 0, none⟩) n c, .slice (some ⟨v4.heap.size, 0, none⟩) 21 21]) (by simp [results, Try.results14, go_sem]) rfl ⟨g, c, n, v4.heap.size, 21, 21, ms, List.replicate 21 0, rfl, ⟨HN.out, hnat⟩, ⟨HK.out, fineI_zero, by simp, by omega, IAt.owned HO9.out (by simp)⟩, HD9.out.src.bel⟩
      · have hnat := HL4.out.d.nat
        rw [HN.out] at hnat
        exact bodyPost_ret (v := .tuple #[.slice (some ⟨g, 0, none⟩) n c, .slice (some ⟨g2, 0, none⟩) m c2]) (by simp [results, Try.results14, go_sem]) rfl ⟨g, c, n, g2, c2, m, ms, ls, rfl, ⟨HN.out, hnat⟩, ⟨HK.out, HM.out.2, HM.out.1, by omega, by have := IAt.owned HL4.out.r rfl; rw [HM.out.1] at this; exact this⟩, HL4.out.d.src.bel⟩

end Go.Proofs.Ytinlhghlmfcbfaa
