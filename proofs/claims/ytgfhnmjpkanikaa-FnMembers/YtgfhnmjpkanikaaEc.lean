/- The specification's and the program's fault of members. -/
import Derived.Test.YtgfhnmjpkanikaaJn1
import Derived.Test.YtgfhnmjpkanikaaJn2
import Derived.Test.YtgfhnmjpkanikaaCv
namespace Go.Proofs.Ytgfhnmjpkanikaa
open Go.RowKit Go.Maps Go.WideMaps

def eachR (last : Int) : List Mb → Int
  | [] => 0
  | m :: t => if inB m.1 1 999 = false ∨ refB m.2 = false then 3 else if m.1 ≤ last then 1 else eachR m.1 t
def dupR (seen : List (Int × Int)) : List Mb → Bool
  | [] => false
  | m :: t => if memB seen m.2 = true then true else dupR (seen ++ [m.2]) t
def memsR (ms : List Mb) : Int := if 8 < ms.length then 2 else if eachR 0 ms ≠ 0 then eachR 0 ms else if dupR [] ms = true then 7 else 0
def prevK (ms : List Mb) : Nat → Int
  | 0 => 0
  | j + 1 => (ms.getD j Z3).1
def secs (ms : List Mb) (j : Nat) : List (Int × Int) := (ms.take j).map Prod.snd

theorem memB_iff {gs : List (Int × Int)} {x : Int × Int} : memB gs x = true ↔ x ∈ gs := by
  have := num_zero gs x
  unfold memB
  by_cases h : x ∈ gs
  · simp [h] at this; simp [h, this]
  · simp [h] at this; simp [h, this]
theorem each_bad {m : Mb} {t : List Mb} {l : Int} (h : inB m.1 1 999 = false ∨ refB m.2 = false) : eachR l (m :: t) = 3 := by rw [eachR, if_pos h]
theorem each_form {m : Mb} {t : List Mb} {l : Int} (h : ¬ (inB m.1 1 999 = false ∨ refB m.2 = false)) (h1 : m.1 ≤ l) : eachR l (m :: t) = 1 := by rw [eachR, if_neg h, if_pos h1]
theorem each_go {m : Mb} {t : List Mb} {l : Int} (h : ¬ (inB m.1 1 999 = false ∨ refB m.2 = false)) (h1 : ¬ m.1 ≤ l) : eachR l (m :: t) = eachR m.1 t := by rw [eachR, if_neg h, if_neg h1]
theorem next_mem {ms : List Mb} {n j : Nat} {o : Mb} (hn : ms.length = n) (hlt : j < n) (ho : o = ms.getD j Z3) : ms.drop j = o :: ms.drop (j + 1) := by
  rw [ho, List.drop_eq_getElem_cons (by omega)]
  simp [List.getElem?_eq_getElem (show j < ms.length by omega)]
theorem secs_succ {ms : List Mb} {n j : Nat} {o : Mb} (hn : ms.length = n) (hlt : j < n) (ho : o = ms.getD j Z3) : secs ms (j + 1) = secs ms j ++ [o.2] := by
  have e : ms[j]? = some o := by rw [ho]; simp [List.getD, show j < ms.length by omega]
  unfold secs
  rw [List.take_add_one, e]
  simp
theorem dup_hit {ms : List Mb} {n j : Nat} {o : Mb} {dp : Bool} (hn : ms.length = n) (hlt : j < n) (ho : o = ms.getD j Z3) (h : dp = dupR (secs ms j) (ms.drop j)) (hm : memB (secs ms j) o.2 = true) : dp = true := by
  rw [h, next_mem hn hlt ho, dupR, if_pos hm]
theorem dup_go {ms : List Mb} {n j : Nat} {o : Mb} {dp : Bool} (hn : ms.length = n) (hlt : j < n) (ho : o = ms.getD j Z3) (h : dp = dupR (secs ms j) (ms.drop j)) (hm : memB (secs ms j) o.2 = false) : dp = dupR (secs ms (j + 1)) (ms.drop (j + 1)) := by
  rw [h, next_mem hn hlt ho, dupR, if_neg (by simp [hm]), secs_succ hn hlt ho]
theorem dup_end {ms : List Mb} {n j : Nat} {dp : Bool} (hn : ms.length = n) (hlt : ¬ j < n) (h : dp = dupR (secs ms j) (ms.drop j)) : dp = false := by
  rw [h, List.drop_eq_nil_of_le (by omega)]; rfl
theorem secs_no {ms : List Mb} {n k : Nat} {o : Mb} {x : Int × Int} (hn : ms.length = n) (hlt : k < n) (ho : o = ms.getD k Z3) (h : memB (secs ms k) x = false) (hne : ¬ o.2 = x) : memB (secs ms (k + 1)) x = false := by
  rw [secs_succ hn hlt ho]
  refine Bool.eq_false_iff.2 fun e => ?_
  rw [memB_iff, List.mem_append] at e
  rcases e with e | e
  · rw [← memB_iff, h] at e; cases e
  · exact hne (List.mem_singleton.1 e).symm
theorem secs_hit {ms : List Mb} {n k i : Nat} {o : Mb} {x : Int × Int} (hn : ms.length = n) (hki : k < i) (hi : i ≤ n) (ho : o = ms.getD k Z3) (he : o.2 = x) : memB (secs ms i) x = true := by
  rw [memB_iff, ← he]
  unfold secs
  refine List.mem_map.2 ⟨o, ?_, rfl⟩
  have e : ms[k]? = some o := by rw [ho]; simp [List.getD, show k < ms.length by omega]
  exact List.mem_of_getElem? (i := k) (by rw [List.getElem?_take_of_lt hki]; exact e)

theorem pair_ne {a b c d : Int} (h : ¬ a = c) : ¬ (a, b) = (c, d) := fun e => h (congrArg Prod.fst e)
theorem pair_ne2 {a b c d : Int} (h : ¬ b = d) : ¬ (a, b) = (c, d) := fun e => h (congrArg Prod.snd e)

set_option maxRecDepth 20000 in
set_option maxHeartbeats 4000000 in
theorem l6Fault_any (n c : Nat) (a : Option Addr) (ms : List Mb) (w : World) (hn : n ≤ 1048576) (hC : MAt w a n ms) :
    Calls Try.prog 24 #[.slice a n c] w fun e w' => e = .returned (.int .i64 (memsR ms)) ∧ Below w.heap.size w w' := by
  have HC : Hid (MAt w a n ms) := hC
  have HN : Hid (ms.length = n) := hC.1
  obtain ⟨r, hr⟩ : ∃ r, r = memsR ms := ⟨_, rfl⟩
  rw [← hr]
  have HR : Hid (r = memsR ms) := hr
  clear hC hr
  by_cases h8 : 8 < n
  · obtain rfl : r = 2 := by rw [HR.out]; unfold memsR; rw [if_pos (by rw [HN.out]; exact h8)]
    go_enter Try.func24, Try.ntmps24
    go_wp2
    go_ret
    exact ⟨rfl, Below.refl _ _⟩
  have HR2 : Hid (r = if eachR 0 ms ≠ 0 then eachR 0 ms else if dupR [] ms = true then 7 else 0) := by show _ = _; rw [HR.out]; unfold memsR; rw [if_neg (by rw [HN.out]; exact h8)]
  obtain ⟨r1, hr1⟩ : ∃ r, r = eachR 0 ms := ⟨_, rfl⟩
  obtain ⟨dp, hdp⟩ : ∃ d, d = dupR [] ms := ⟨_, rfl⟩
  have HR3 : Hid (r = if r1 ≠ 0 then r1 else if dp = true then 7 else 0) := by show _ = _; rw [hr1, hdp]; exact HR2.out
  have HR1 : Hid (r1 = eachR 0 ms) := hr1
  have HDP : Hid (dp = dupR [] ms) := hdp
  clear hr1 hdp HR HR2
  go_enter Try.func24, Try.ntmps24
  go_wp2
  go_loopw [3] (fun i wr => ∃ j : Nat, j ≤ n ∧ i = .int .i64 j ∧ Below w.heap.size w wr ∧ Hid (r1 = eachR (prevK ms j) (ms.drop j))) (fun i _ => n - (intOf i).toNat)
  case atStart => exact ⟨0, Nat.zero_le _, rfl, Below.refl _ _, HR1.out⟩
  case round =>
    obtain ⟨j, hj, rfl, hbel, HT⟩ := hrel
    by_cases hlt : j < n
    · rcases HC.out.2 with h0 | ⟨b, off, e0, l0, d0⟩
      · omega
      subst e0
      obtain ⟨o, ho⟩ : ∃ o, o = ms.getD j Z3 := ⟨_, rfl⟩
      have p0 := d0 j hlt
      rw [← ho] at p0
      have HS : Hid (o = ms.getD j Z3) := ho
      obtain ⟨ok, op, oq⟩ := o
      have x0 := (hbel.cell (p := ⟨b, off + j * 3, none⟩) l0).trans p0.1
      have x1 := (hbel.cell (p := ⟨b, off + j * 3 + 1, none⟩) l0).trans p0.2.1
      have x2 := (hbel.cell (p := ⟨b, off + j * 3 + 2, none⟩) l0).trans p0.2.2
      simp only at x0 x1 x2
      have HNX : Hid (ms.drop j = (ok, op, oq) :: ms.drop (j + 1)) := next_mem HN.out hlt HS.out
      have hlw : b < wr.heap.size := Nat.lt_of_lt_of_le l0 hbel.size
      obtain ⟨kk, hkk⟩ : ∃ k, k = inB ok 1 999 := ⟨_, rfl⟩
      obtain ⟨kr, hkr⟩ : ∃ k, k = refB (op, oq) := ⟨_, rfl⟩
      have hkey : ∀ v, Calls Try.prog 44 #[.int .i64 ok] v fun e w' => e = .returned (.bool kk) ∧ w' = v := fun v => by rw [hkk]; exact l1Key_any ok v
      have hrf := l3Ref_any op oq wr
      rw [← hkr] at hrf
      have HKK : Hid (kk = inB ok 1 999) := hkk
      have HKR : Hid (kr = refB (op, oq)) := hkr
      have hki : (j : Int) < (n : Int) := by omega
      clear ho p0 hkk hkr
      cases kk
      · obtain rfl : r = 3 := by
          have e : r1 = 3 := by rw [HT.out, HNX.out]; exact each_bad (.inl HKK.out.symm)
          rw [HR3.out, e]; rfl
        clear d0
        go_wp2_with (first | (go_at_call 44; refine (hkey _).mono ?_; rintro e w' ⟨rfl, hw⟩; have hw2 := hw.symm; subst hw2))
        go_ret
        exact ⟨rfl, hbel⟩
      cases kr
      · obtain rfl : r = 3 := by
          have e : r1 = 3 := by rw [HT.out, HNX.out]; exact each_bad (.inr HKR.out.symm)
          rw [HR3.out, e]; rfl
        clear d0
        go_wp2_with (first | (go_at_call 44; refine (hkey _).mono ?_; rintro e w' ⟨rfl, hw⟩; have hw2 := hw.symm; subst hw2) | (go_at_call 45; (with_reducible refine hrf.mono ?_); clear hrf; rintro e w2 ⟨rfl, hb2⟩))
        go_ret
        exact ⟨rfl, hbel.trans (hb2.mono hbel.size)⟩
      have HOK : Hid (¬ (inB ok 1 999 = false ∨ refB (op, oq) = false)) := by
        rintro (h | h)
        · rw [← HKK.out] at h; cases h
        · rw [← HKR.out] at h; cases h
      have hk1 : 1 ≤ ok := by
        have := HKK.out
        simp [inB] at this
        omega
      by_cases hj0 : ¬ (0 : Int) < (j : Int)
      · have hj00 : j = 0 := by omega
        have HTN : Hid (r1 = eachR (prevK ms (j + 1)) (ms.drop (j + 1))) := by
          show _ = _
          have e : prevK ms (j + 1) = ok := by show (ms.getD j Z3).1 = ok; rw [← HS.out]
          rw [e, HT.out, HNX.out]
          exact each_go HOK.out (by rw [hj00]; show ¬ ok ≤ 0; omega)
        have hd : decide (0 < j) = false := decide_eq_false (by omega)
        clear hj00 d0 hk1
        go_wp2_with (first | (go_at_call 44; refine (hkey _).mono ?_; rintro e w' ⟨rfl, hw⟩; have hw2 := hw.symm; subst hw2) | (go_at_call 45; (with_reducible refine hrf.mono ?_); clear hrf; rintro e w2 ⟨rfl, hb2⟩; clear x0 x1 x2))
        go_quiet (fail)
        go_wp2
        go_roundw
        case rel => exact ⟨j + 1, by omega, by go_num, (hbel.trans (hb2.mono hbel.size)).trans (Joins.below_draws _ _ _), HTN⟩
        case measure => simp [intOf]; omega
      · have hj0 : (0 : Int) < (j : Int) := by omega
        have hd : decide (0 < j) = true := decide_eq_true (by omega)
        obtain ⟨i, hi⟩ : ∃ i, j = i + 1 := ⟨j - 1, by omega⟩
        have hsub : IntKind.i64.wrap ((j : Int) - 1) = (i : Int) := by rw [show (j : Int) - 1 = (i : Int) by omega]; exact IntWalk.i64_in _ (by omega)
        obtain ⟨nk, hnk⟩ : ∃ o, o = (ms.getD i Z3).1 := ⟨_, rfl⟩
        have q0 := (d0 i (by omega)).1
        rw [← hnk] at q0
        have q1 := (hbel.cell (p := ⟨b, off + i * 3, none⟩) l0).trans q0
        have HPR : Hid (prevK ms j = nk) := by show prevK ms j = nk; rw [hi, hnk]; rfl
        have hkm : (i : Int) < (n : Int) := by omega
        have hk0 : (0 : Int) ≤ (i : Int) := by omega
        clear d0 q0 hnk hi hk1
        by_cases hle : ok ≤ nk
        · have hled : decide (ok ≤ nk) = true := decide_eq_true hle
          obtain rfl : r = 1 := by
            have e : r1 = 1 := by rw [HT.out, HNX.out, HPR.out]; exact each_form HOK.out hle
            rw [HR3.out, e]; rfl
          go_wp2_with (first | (go_at_call 44; refine (hkey _).mono ?_; rintro e w' ⟨rfl, hw⟩; have hw2 := hw.symm; subst hw2) | (go_at_call 45; (with_reducible refine hrf.mono ?_); clear hrf; rintro e w2 ⟨rfl, hb2⟩; have y0 := (hb2.cell (p := ⟨b, off + j * 3, none⟩) hlw).trans x0; have y1 := (hb2.cell (p := ⟨b, off + i * 3, none⟩) hlw).trans q1; clear x0 x1 x2 q1))
          go_quiet (fail)
          go_wp2
          go_ret
          exact ⟨rfl, (hbel.trans (hb2.mono hbel.size)).trans (Joins.below_draws _ _ _)⟩
        · have hled : decide (ok ≤ nk) = false := decide_eq_false hle
          have HTN : Hid (r1 = eachR (prevK ms (j + 1)) (ms.drop (j + 1))) := by
            show _ = _
            have e : prevK ms (j + 1) = ok := by show (ms.getD j Z3).1 = ok; rw [← HS.out]
            rw [e, HT.out, HNX.out, HPR.out]
            exact each_go HOK.out hle
          go_wp2_with (first | (go_at_call 44; refine (hkey _).mono ?_; rintro e w' ⟨rfl, hw⟩; have hw2 := hw.symm; subst hw2) | (go_at_call 45; (with_reducible refine hrf.mono ?_); clear hrf; rintro e w2 ⟨rfl, hb2⟩; have y0 := (hb2.cell (p := ⟨b, off + j * 3, none⟩) hlw).trans x0; have y1 := (hb2.cell (p := ⟨b, off + i * 3, none⟩) hlw).trans q1; clear x0 x1 x2 q1))
          go_quiet (fail)
          go_wp2
          go_roundw
          case rel => exact ⟨j + 1, by omega, by go_num, (hbel.trans (hb2.mono hbel.size)).trans (Joins.below_draws _ _ _), HTN⟩
          case measure => simp [intOf]; omega
    · have HR4 : Hid (r = if dp = true then 7 else 0) := by
        have e : r1 = 0 := by rw [HT.out, List.drop_eq_nil_of_le (by rw [HN.out]; omega)]; rfl
        show _ = _
        rw [HR3.out, e]; rfl
      clear HT HR3 HR1
      have HB0 : Hid (Below w.heap.size w wr) := hbel
      clear hbel
      go_wp2
      go_loopw [4] (fun i wr => ∃ j : Nat, j ≤ n ∧ i = .int .i64 j ∧ Below w.heap.size w wr ∧ Hid (dp = dupR (secs ms j) (ms.drop j))) (fun i _ => n - (intOf i).toNat)
      case atStart => exact ⟨0, Nat.zero_le _, rfl, HB0.out, HDP.out⟩
      case round =>
        rename_i wr0
        obtain ⟨i, hi, rfl, hbel, HD⟩ := hrel
        by_cases hlt2 : i < n
        · rcases HC.out.2 with h0 | ⟨b, off, e0, l0, d0⟩
          · omega
          subst e0
          obtain ⟨o, ho⟩ : ∃ o, o = ms.getD i Z3 := ⟨_, rfl⟩
          have p0 := d0 i hlt2
          rw [← ho] at p0
          have HS : Hid (o = ms.getD i Z3) := ho
          obtain ⟨ok, op, oq⟩ := o
          have HX1 : Hid (w.cell? ⟨b, off + i * 3 + 1, none⟩ = some (.int .i64 op)) := p0.2.1
          have HX2 : Hid (w.cell? ⟨b, off + i * 3 + 2, none⟩ = some (.int .i64 oq)) := p0.2.2
          have HDD : Hid (∀ j, j < n → w.cell? ⟨b, off + j * 3, none⟩ = some (.int .i64 (ms.getD j Z3).1) ∧ w.cell? ⟨b, off + j * 3 + 1, none⟩ = some (.int .i64 (ms.getD j Z3).2.1) ∧ w.cell? ⟨b, off + j * 3 + 2, none⟩ = some (.int .i64 (ms.getD j Z3).2.2)) := d0
          have hki : (i : Int) < (n : Int) := by omega
          have HBI : Hid (Below w.heap.size w wr) := hbel
          clear ho p0 d0 hbel
          go_wp2
          go_loopw [5] (fun kx wr => ∃ k : Nat, k ≤ i ∧ kx = .int .i64 k ∧ Below w.heap.size w wr ∧ Hid (memB (secs ms k) (op, oq) = false)) (fun kx _ => i - (intOf kx).toNat)
          case atStart => exact ⟨0, Nat.zero_le _, rfl, HBI.out, rfl⟩
          case round =>
            rename_i wr1
            obtain ⟨k, hk, rfl, hbel, HM⟩ := hrel
            by_cases hlt3 : k < i
            · obtain ⟨o, ho⟩ : ∃ o, o = ms.getD k Z3 := ⟨_, rfl⟩
              have p0 := HDD.out k (by omega)
              rw [← ho] at p0
              have HS2 : Hid (o = ms.getD k Z3) := ho
              obtain ⟨nk, np, nq⟩ := o
              have x1 := (hbel.cell (p := ⟨b, off + i * 3 + 1, none⟩) l0).trans HX1.out
              have x2 := (hbel.cell (p := ⟨b, off + i * 3 + 2, none⟩) l0).trans HX2.out
              have y1 := (hbel.cell (p := ⟨b, off + k * 3 + 1, none⟩) l0).trans p0.2.1
              have y2 := (hbel.cell (p := ⟨b, off + k * 3 + 2, none⟩) l0).trans p0.2.2
              simp only at y1 y2
              have hkn : (k : Int) < (n : Int) := by omega
              have hkl : (k : Int) < (i : Int) := by omega
              clear ho p0
              by_cases h1 : np = op
              · have e1 : (np == op) = true := by simpa using h1
                have H1 : Hid (np = op) := h1
                clear h1
                by_cases h2 : nq = oq
                · have e2 : (nq == oq) = true := by simpa using h2
                  have hhit : memB (secs ms i) (op, oq) = true := secs_hit HN.out hlt3 (by omega) HS2.out (by rw [← H1.out, ← h2])
                  obtain rfl : dp = true := dup_hit HN.out hlt2 HS.out HD.out hhit
                  obtain rfl : r = 7 := by rw [HR4.out]; rfl
                  clear h2 hhit
                  go_wp2
                  go_quiet (fail)
                  go_wp2
                  go_ret
                  exact ⟨rfl, hbel.trans (Joins.below_draws _ _ _)⟩
                · have e2 : (nq == oq) = false := by simpa using h2
                  have HMN : Hid (memB (secs ms (k + 1)) (op, oq) = false) := secs_no HN.out (by omega) HS2.out HM.out (pair_ne2 h2)
                  clear h2
                  go_wp2
                  go_quiet (fail)
                  go_wp2
                  go_roundw
                  case rel => exact ⟨k + 1, by omega, by go_num, hbel.trans (Joins.below_draws _ _ _), HMN⟩
                  case measure => simp [intOf]; omega
              · have e1 : (np == op) = false := by simpa using h1
                have HMN : Hid (memB (secs ms (k + 1)) (op, oq) = false) := secs_no HN.out (by omega) HS2.out HM.out (pair_ne h1)
                clear h1
                go_wp2
                go_quiet (fail)
                go_wp2
                go_roundw
                case rel => exact ⟨k + 1, by omega, by go_num, hbel.trans (Joins.below_draws _ _ _), HMN⟩
                case measure => simp [intOf]; omega
            · have hkk : k = i := by omega
              have HDN : Hid (dp = dupR (secs ms (i + 1)) (ms.drop (i + 1))) := dup_go HN.out hlt2 HS.out HD.out (by rw [← hkk]; exact HM.out)
              have hkl : ¬ (k : Int) < (i : Int) := by omega
              clear hkk
              go_wp2
              go_roundw
              case rel => exact ⟨i + 1, by omega, by go_num, hbel, HDN⟩
              case measure => simp [intOf]; omega
        · obtain rfl : r = 0 := by
            have e : dp = false := dup_end HN.out hlt2 HD.out
            rw [HR4.out, e]; rfl
          go_wp2
          go_ret
          exact ⟨rfl, hbel⟩

end Go.Proofs.Ytgfhnmjpkanikaa
