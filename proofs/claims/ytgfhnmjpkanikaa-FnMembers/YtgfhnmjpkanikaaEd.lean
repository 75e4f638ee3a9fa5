/- The program's fault of members. -/
import Derived.Test.YtgfhnmjpkanikaaEc
namespace Go.Proofs.Ytgfhnmjpkanikaa
open Go.RowKit Go.Maps Go.WideMaps

set_option maxRecDepth 20000 in
set_option maxHeartbeats 2000000 in
theorem eachMember_any (n c : Nat) (a : Option Addr) (ms : List Mb) (w : World) (hn : n ≤ 1048576) (hC : MAt w a n ms) :
    Calls Try.prog 29 #[.slice a n c] w fun e w' => e = .returned (.int .i64 (eachR 0 ms)) ∧ Below w.heap.size w w' := by
  have HC : Hid (MAt w a n ms) := hC
  have HN : Hid (ms.length = n) := hC.1
  obtain ⟨r, hr⟩ : ∃ r, r = eachR 0 ms := ⟨_, rfl⟩
  rw [← hr]
  have HR : Hid (r = eachR 0 ms) := hr
  clear hC hr
  go_enter Try.func29, Try.ntmps29
  go_wp2
  go_loopw [3, 8] (fun la i wr => ∃ j : Nat, j ≤ n ∧ i = .int .i64 j ∧ (∃ l : Int, la = .int .i64 l ∧ Hid (r = eachR l (ms.drop j))) ∧ Below w.heap.size w wr) (fun _ i _ => n - (intOf i).toNat)
  case atStart => exact ⟨0, Nat.zero_le _, rfl, ⟨0, rfl, HR.out⟩, Below.refl _ _⟩
  case round =>
    obtain ⟨j, hj, rfl, ⟨l, rfl, HT⟩, hbel⟩ := hrel
    by_cases hlt : j < n
    · rcases HC.out.2 with h0 | ⟨b, off, e0, l0, d0⟩
      · omega
      subst e0
      obtain ⟨o, ho⟩ : ∃ o, o = ms.getD j Z3 := ⟨_, rfl⟩
      have p0 := d0 j hlt
      rw [← ho] at p0
      have HS : Hid (o = ms.getD j Z3) := ho
      obtain ⟨ok, op, oq⟩ := o
      have x0 := (hbel.cell (p := ⟨b, off + j * 3, none⟩) l0).trans p0.1
      have x1 := (hbel.cell (p := ⟨b, off + j * 3 + 1, none⟩) l0).trans p0.2.1
      have x2 := (hbel.cell (p := ⟨b, off + j * 3 + 2, none⟩) l0).trans p0.2.2
      simp only at x0 x1 x2
      have HNX : Hid (ms.drop j = (ok, op, oq) :: ms.drop (j + 1)) := next_mem HN.out hlt HS.out
      obtain ⟨kk, hkk⟩ : ∃ k, k = inB ok 1 999 := ⟨_, rfl⟩
      obtain ⟨kr, hkr⟩ : ∃ k, k = refB (op, oq) := ⟨_, rfl⟩
      have hkey : ∀ v, Calls Try.prog 51 #[.int .i64 ok] v fun e w' => e = .returned (.bool kk) ∧ w' = v := fun v => by rw [hkk]; exact isKey_any ok v
      have hrf := isRef_any op oq (wr.alloc (.cells #[.int .i64 ok, .int .i64 op, .int .i64 oq] 38))
      rw [← hkr] at hrf
      have HKK : Hid (kk = inB ok 1 999) := hkk
      have HKR : Hid (kr = refB (op, oq)) := hkr
      have hki : (j : Int) < (n : Int) := by omega
      have HB1 : Hid (Below w.heap.size w (wr.alloc (.cells #[.int .i64 ok, .int .i64 op, .int .i64 oq] 38))) := hbel.trans ((below_box _).mono hbel.size)
      have T1 : Hid ((wr.alloc (.cells #[.int .i64 ok, .int .i64 op, .int .i64 oq] 38)).heap[wr.heap.size]? = some (.cells #[.int .i64 ok, .int .i64 op, .int .i64 oq] 38 (0, 0))) := heap_alloc_new _ _
      clear ho p0 hkk hkr d0
      cases kk
      · obtain rfl : r = 3 := by rw [HT.out, HNX.out]; exact each_bad (.inl HKK.out.symm)
        go_wp2_with (first | (go_at_call 51; refine (hkey _).mono ?_; rintro e w' ⟨rfl, hw⟩; have hw2 := hw.symm; subst hw2))
        go_ret
        exact ⟨rfl, HB1.out⟩
      cases kr
      · obtain rfl : r = 3 := by rw [HT.out, HNX.out]; exact each_bad (.inr HKR.out.symm)
        go_wp2_with (first | (go_at_call 51; refine (hkey _).mono ?_; rintro e w' ⟨rfl, hw⟩; have hw2 := hw.symm; subst hw2) | (go_at_call 52; (with_reducible refine hrf.mono ?_); clear hrf; rintro e w2 ⟨rfl, hb2⟩))
        go_ret
        exact ⟨rfl, HB1.out.trans (hb2.mono HB1.out.size)⟩
      have HOK : Hid (¬ (inB ok 1 999 = false ∨ refB (op, oq) = false)) := by
        rintro (h | h)
        · rw [← HKK.out] at h; cases h
        · rw [← HKR.out] at h; cases h
      by_cases hle : ok ≤ l
      · obtain rfl : r = 1 := by rw [HT.out, HNX.out]; exact each_form HOK.out hle
        go_wp2_with (first | (go_at_call 51; refine (hkey _).mono ?_; rintro e w' ⟨rfl, hw⟩; have hw2 := hw.symm; subst hw2) | (go_at_call 52; (with_reducible refine hrf.mono ?_); clear hrf; rintro e w2 ⟨rfl, hb2⟩; obtain ⟨y0, y1, y2⟩ := cells3 (keepb T1.out hb2).out; have HB2 : Hid (Below w.heap.size w w2) := HB1.out.trans (hb2.mono HB1.out.size); clear hb2))
        go_ret
        exact ⟨rfl, HB2.out⟩
      · have HTN : Hid (r = eachR ok (ms.drop (j + 1))) := by show _ = _; rw [HT.out, HNX.out]; exact each_go HOK.out hle
        go_wp2_with (first | (go_at_call 51; refine (hkey _).mono ?_; rintro e w' ⟨rfl, hw⟩; have hw2 := hw.symm; subst hw2) | (go_at_call 52; (with_reducible refine hrf.mono ?_); clear hrf; rintro e w2 ⟨rfl, hb2⟩; obtain ⟨y0, y1, y2⟩ := cells3 (keepb T1.out hb2).out; have HB2 : Hid (Below w.heap.size w w2) := HB1.out.trans (hb2.mono HB1.out.size); clear hb2))
        go_roundw
        case rel => exact ⟨j + 1, by omega, by go_num, ⟨ok, rfl, HTN⟩, HB2.out⟩
        case measure => simp [intOf]; omega
    · obtain rfl : r = 0 := by rw [HT.out, List.drop_eq_nil_of_le (by rw [HN.out]; omega)]; rfl
      go_wp2
      go_ret
      exact ⟨rfl, hbel⟩

theorem gat_ref {w : World} {base n c : Nat} {a : Option Addr} {gs : List (Int × Int)} (h : w.ownsRow base 36 2 (.slice a n c) n (gcells gs)) (hn : gs.length = n) : GAt w a n gs := by
  rcases h.2 with ⟨e, e0⟩ | ⟨g, cap, cur, e, _⟩
  · cases e; exact ⟨hn, .inl e0⟩
  · cases e; exact GAt.owned h hn
theorem isAmong_any (a : Option Addr) (n c : Nat) (gs : List (Int × Int)) (p q : Int) (w : World) (hl : n ≤ maxLen) (hs : GAt w a n gs) :
    Calls Try.prog 30 #[.agg #[.int .i64 p, .int .i64 q], .slice a n c] w fun e w' => e = .returned (.bool (memB gs (p, q))) ∧ Below w.heap.size w w' := by
  have hbx : Below w.heap.size w (w.alloc (.cells #[.int .i64 p, .int .i64 q] 36)) := below_box _
  have hI := rContains_any a n c gs p q (w.alloc (.cells #[.int .i64 p, .int .i64 q] 36)) hl (hs.below hbx (Nat.le_refl _))
  have HB : Hid (Below w.heap.size w (w.alloc (.cells #[.int .i64 p, .int .i64 q] 36))) := hbx
  obtain ⟨r, hr⟩ : ∃ r, r = memB gs (p, q) := ⟨_, rfl⟩
  rw [← hr] at hI ⊢
  clear hs hr hbx
  go_enter Try.func30, Try.ntmps30
  go_wp2_with (first | (go_at_call 53; (with_reducible refine hI.mono ?_); clear hI; rintro e w2 ⟨rfl, hb2⟩))
  go_ret
  exact ⟨rfl, HB.out.trans (hb2.mono HB.out.size)⟩
theorem gcells_snoc (gs : List (Int × Int)) (p q : Int) : gcells (gs ++ [(p, q)]) = gcells gs ++ [.int .i64 p, .int .i64 q] := by
  unfold gcells
  rw [List.flatMap_append]
  rfl
/-- A ref more: what the append leaves. -/
theorem ref_added {W : World} {lo X j : Nat} {v : Value} {gs : List (Int × Int)} {p q : Int} (h : W.ownsRow lo 36 2 v j (gcells gs)) (hX : W.heap[X]? = some (.cells #[.int .i64 p, .int .i64 q] 36 (0, 0))) (hj : j ≤ 1000) (hlo : lo ≤ W.heap.size) :
    ∃ g cap w5, (Builtin.append_ #[25, 25] 25 #[v, .slice (some ⟨X, 0, none⟩) 1 1]).run Try.prog W = .ok (.slice (some ⟨g, 0, none⟩) (j + 1) cap) w5 ∧
      Hid (w5.ownsRow lo 36 2 (.slice (some ⟨g, 0, none⟩) (j + 1) cap) (j + 1) (gcells (gs ++ [(p, q)])) ∧ W.grownBy w5 v.ownBlock) := by
  obtain ⟨i0, hi, hz0, hz1, hz2⟩ := info_parts Try.infoRef
  obtain ⟨v', w5, hrun, hown', hgrow, hsome⟩ := run_append_own (P := Try.prog) W lo 25 25 36 i0 (.agg #[.int .i64 0, .int .i64 0]) 2 16 Try.underlying25 hi hz0 hz1 hz2 rfl (by decide) v j (gcells gs) h ⟨X, 0, none⟩ 1 1 [.int .i64 p, .int .i64 q] rfl (World.news_of_block hX) (by
    intro z hz
    simp only [List.mem_cons, List.not_mem_nil, or_false] at hz
    rcases hz with rfl | rfl <;> rfl) (by unfold maxLen; omega) (by omega) hlo
  obtain ⟨g, cap, rfl⟩ := ownsRow_succ hown'
  refine ⟨g, cap, w5, hrun, ?_, hgrow⟩
  rw [gcells_snoc]
  exact hown'
theorem secs_length {ms : List Mb} {n j : Nat} (hn : ms.length = n) (hj : j ≤ n) : (secs ms j).length = j := by
  unfold secs
  rw [List.length_map, List.length_take]
  omega

set_option maxRecDepth 20000 in
set_option maxHeartbeats 4000000 in
theorem iMembersFault_any (n c : Nat) (a : Option Addr) (ms : List Mb) (w : World) (hn : n ≤ 1048576) (hC : MAt w a n ms) :
    Calls Try.prog 10 #[.slice a n c] w fun e w' => e = .returned (.int .i64 (memsR ms)) ∧ Below w.heap.size w w' := by
  have hE := eachMember_any n c a ms w hn hC
  have HC : Hid (MAt w a n ms) := hC
  have HN : Hid (ms.length = n) := hC.1
  obtain ⟨r, hr⟩ : ∃ r, r = memsR ms := ⟨_, rfl⟩
  rw [← hr]
  have HR : Hid (r = memsR ms) := hr
  clear hC hr
  by_cases h8 : 8 < n
  · obtain rfl : r = 2 := by rw [HR.out]; unfold memsR; rw [if_pos (by rw [HN.out]; exact h8)]
    go_enter Try.func10, Try.ntmps10
    go_wp2
    go_ret
    exact ⟨rfl, Below.refl _ _⟩
  have HR2 : Hid (r = if eachR 0 ms ≠ 0 then eachR 0 ms else if dupR [] ms = true then 7 else 0) := by show _ = _; rw [HR.out]; unfold memsR; rw [if_neg (by rw [HN.out]; exact h8)]
  obtain ⟨r1, hr1⟩ : ∃ r, r = eachR 0 ms := ⟨_, rfl⟩
  obtain ⟨dp, hdp⟩ : ∃ d, d = dupR [] ms := ⟨_, rfl⟩
  rw [← hr1] at hE
  have HR3 : Hid (r = if r1 ≠ 0 then r1 else if dp = true then 7 else 0) := by show _ = _; rw [hr1, hdp]; exact HR2.out
  have HDP : Hid (dp = dupR [] ms) := hdp
  clear hr1 hdp HR HR2
  by_cases h0 : r1 = 0
  · subst h0
    have HR4 : Hid (r = if dp = true then 7 else 0) := by show _ = _; rw [HR3.out]; rfl
    clear HR3
    go_enter Try.func10, Try.ntmps10
    go_wp2_with (first | (go_at_call 29; (with_reducible refine hE.mono ?_); clear hE; rintro e w2 ⟨rfl, hb2⟩; have HB2 : Hid (Below w.heap.size w w2) := hb2; clear hb2))
    go_loopw [4, 17] (fun v i wr => ∃ j : Nat, j ≤ n ∧ i = .int .i64 j ∧ Below w.heap.size w wr ∧ ∃ va vc, v = .slice va j vc ∧ Hid (wr.ownsRow w.heap.size 36 2 (.slice va j vc) j (gcells (secs ms j))) ∧ Hid (dp = dupR (secs ms j) (ms.drop j))) (fun _ i _ => n - (intOf i).toNat)
    case atStart => exact ⟨0, Nat.zero_le _, rfl, HB2.out, none, 0, rfl, ⟨rfl, .inl ⟨rfl, rfl⟩⟩, HDP.out⟩
    case round =>
      obtain ⟨j, hj, rfl, hbel, va, vc, rfl, HO, HD⟩ := hrel
      by_cases hlt : j < n
      · rcases HC.out.2 with h0 | ⟨b, off, e0, l0, d0⟩
        · omega
        subst e0
        obtain ⟨o, ho⟩ : ∃ o, o = ms.getD j Z3 := ⟨_, rfl⟩
        have p0 := d0 j hlt
        rw [← ho] at p0
        have HS : Hid (o = ms.getD j Z3) := ho
        obtain ⟨ok, op, oq⟩ := o
        have x0 := (hbel.cell (p := ⟨b, off + j * 3, none⟩) l0).trans p0.1
        have x1 := (hbel.cell (p := ⟨b, off + j * 3 + 1, none⟩) l0).trans p0.2.1
        have x2 := (hbel.cell (p := ⟨b, off + j * 3 + 2, none⟩) l0).trans p0.2.2
        simp only at x0 x1 x2
        have hki : (j : Int) < (n : Int) := by omega
        have hbx : Below wr.heap.size wr (wr.alloc (.cells #[.int .i64 ok, .int .i64 op, .int .i64 oq] 38)) := below_box _
        have hA := isAmong_any va j vc (secs ms j) op oq (wr.alloc (.cells #[.int .i64 ok, .int .i64 op, .int .i64 oq] 38)) (by unfold maxLen; omega) ((gat_ref HO.out (secs_length HN.out hj)).below hbx (Nat.le_refl _))
        obtain ⟨mb, hmb⟩ : ∃ b, b = memB (secs ms j) (op, oq) := ⟨_, rfl⟩
        rw [← hmb] at hA
        have HMB : Hid (mb = memB (secs ms j) (op, oq)) := hmb
        have HB1 : Hid (Below w.heap.size w (wr.alloc (.cells #[.int .i64 ok, .int .i64 op, .int .i64 oq] 38))) := hbel.trans (hbx.mono hbel.size)
        have T1 : Hid ((wr.alloc (.cells #[.int .i64 ok, .int .i64 op, .int .i64 oq] 38)).heap[wr.heap.size]? = some (.cells #[.int .i64 ok, .int .i64 op, .int .i64 oq] 38 (0, 0))) := heap_alloc_new _ _
        have HO1 : Hid ((wr.alloc (.cells #[.int .i64 ok, .int .i64 op, .int .i64 oq] 38)).ownsRow w.heap.size 36 2 (.slice va j vc) j (gcells (secs ms j))) := HO.out.alloc _
        clear ho p0 d0 hmb hbx
        cases mb
        · have HDN : Hid (dp = dupR (secs ms (j + 1)) (ms.drop (j + 1))) := dup_go HN.out hlt HS.out HD.out HMB.out.symm
          have HSE : Hid (secs ms (j + 1) = secs ms j ++ [(op, oq)]) := secs_succ HN.out hlt HS.out
          go_wp2_with (first
            | (go_at_call 30; (with_reducible refine hA.mono ?_); clear hA; rintro e w3 ⟨rfl, hb3⟩; obtain ⟨y0, y1, y2⟩ := cells3 (keepb T1.out hb3).out; have HB3 : Hid (Below w.heap.size w w3) := HB1.out.trans (hb3.mono HB1.out.size); have HO3 : Hid (w3.ownsRow w.heap.size 36 2 (.slice va j vc) j (gcells (secs ms j))) := HO1.out.kept (grown_of_below hb3) (by cases Value.ownBlock (.slice va j vc) <;> simp); have hsz3 := HB3.out.size; obtain ⟨g5, cap, w5, hrun, HC5⟩ := ref_added (p := op) (q := oq) (X := w3.heap.size) (HO3.out.alloc (.cells #[.int .i64 op, .int .i64 oq] 36)) (heap_alloc_new _ _) (by omega) (by simp; omega); clear hb3)
            | (at_builtin; go_must (refine wpList_append_runC (by rfl) _ _ _ (by rfl) (by rfl) (by rfl) hrun ?_); clear hrun))
          go_roundw
          case rel => exact ⟨j + 1, by omega, by go_num, (HB3.out.trans ((below_box _).mono HB3.out.size)).grown HC5.out.2 (by simp; omega) (fun k hk => (HO3.out.lt k hk).1), _, _, rfl, by rw [HSE.out]; exact HC5.out.1, HDN.out⟩
          case measure => simp [intOf]; omega
        · obtain rfl : dp = true := dup_hit HN.out hlt HS.out HD.out HMB.out.symm
          obtain rfl : r = 7 := by rw [HR4.out]; rfl
          go_wp2_with (first
            | (go_at_call 30; (with_reducible refine hA.mono ?_); clear hA; rintro e w3 ⟨rfl, hb3⟩))
          go_ret
          exact ⟨rfl, HB1.out.trans (hb3.mono HB1.out.size)⟩
      · obtain rfl : r = 0 := by
          have e : dp = false := dup_end HN.out hlt HD.out
          rw [HR4.out, e]; rfl
        go_wp2
        go_ret
        exact ⟨rfl, hbel⟩
  · obtain rfl : r = r1 := by rw [HR3.out, if_pos h0]
    go_enter Try.func10, Try.ntmps10
    go_wp2_with (first | (go_at_call 29; (with_reducible refine hE.mono ?_); clear hE; rintro e w2 ⟨rfl, hb2⟩))
    go_ret
    exact ⟨rfl, hb2⟩

end Go.Proofs.Ytgfhnmjpkanikaa
