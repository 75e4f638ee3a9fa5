/- A new cluster: what keeps it from being one; who of a quorum is bad, and who is not: the specification's. -/
import Derived.Test.YtmnahhojfcigmaaXc
import Derived.Test.YtmnahhojfcigmaaEe
import Derived.Test.YtmnahhojfcigmaaCv
import Derived.Test.YtmnahhojfcigmaaCp
import Derived.Test.YtmnahhojfcigmaaLOwnedBy
namespace Go.Proofs.Ytmnahhojfcigmaa
open Go.RowKit Go.Maps Go.WideMaps

/-- What keeps keys from being those of the bad ones. -/
def badR (t : List Int) : Int := if allK t = false then 3 else if riseB 0 t = false then 1 else 0
/-- The keys that are not bad. -/
def goodL (l t : List Int) : List Int := l.filter fun k => !hasK t k
/-- What keeps a new cluster from being one. -/
def cluC (l : List Int) (x : Int) (t : List Int) (h : Int) : Int :=
  if quoR l x ≠ 0 then quoR l x else if 20 < t.length ∨ inB h 1 4 = false then 2 else badR t
theorem riseB_fst1 {l : List Int} (ha : allK l = true) : riseB 0 (l.take 1) = true := by
  match l with
  | [] => rfl
  | k :: t =>
    simp [allK] at ha
    have := inB_true.1 ha.1
    simp [riseB]
    omega

set_option maxRecDepth 20000 in
set_option maxHeartbeats 2000000 in
theorem l12Bad_any (n cap : Nat) (a : Option Addr) (l : List Int) (w : World) (hl : n ≤ 1048576) (hI : IAt w a n l) :
    Calls Try.prog 20 #[.slice a n cap] w fun e w' => e = .returned (.int .i64 (badR l)) ∧ Below w.heap.size w w' := by
  have HI : Hid (IAt w a n l) := hI
  have HN : Hid (l.length = n) := hI.1
  obtain ⟨r, hr⟩ : ∃ r, r = badR l := ⟨_, rfl⟩
  rw [← hr]
  have HR : Hid (r = badR l) := hr
  clear hI hr
  go_enter Try.func20, Try.ntmps20
  go_wp2
  go_loop [3] (fun i => ∃ k : Nat, k ≤ n ∧ i = .int .i64 k ∧ Hid (allK (l.take k) = true)) (fun i => n - (intOf i).toNat)
  case atStart => exact ⟨0, Nat.zero_le _, rfl, by show _ = _; simp [allK]⟩
  case round =>
    obtain ⟨k, hk, rfl, HT⟩ := hrel
    by_cases hlt : k < n
    · rcases HI.out.2 with h0 | ⟨b0, o0, e0, l0, d0⟩
      · omega
      subst e0
      obtain ⟨s, hs⟩ : ∃ s, s = l.getD k 0 := ⟨_, rfl⟩
      have x0 := d0 k hlt
      rw [← hs] at x0
      have HS : Hid (s = l.getD k 0) := hs
      obtain ⟨ks, hks⟩ : ∃ b, b = inB s 1 999 := ⟨_, rfl⟩
      have hkey : ∀ v, Calls Try.prog 30 #[.int .i64 s] v fun e w' => e = .returned (.bool ks) ∧ w' = v := fun v => by rw [hks]; exact l1Key_any s v
      have HKS : Hid (ks = inB s 1 999) := hks
      clear hs d0 hks
      have hki : (k : Int) < (n : Int) := by omega
      cases ks
      · obtain rfl : r = 3 := by
          rw [HR.out]
          unfold badR
          rw [if_pos (allK_pre (pre := l.take (k + 1)) (List.take_prefix _ _) (by rw [take_next HN.out hlt HS.out]; exact allK_bad HKS.out.symm))]
        go_wp2_with (go_at_call 30; refine (hkey _).mono ?_; rintro e w' ⟨rfl, hw⟩; have hw2 := hw.symm; subst hw2)
        go_ret
        exact ⟨rfl, Below.refl _ _⟩
      · go_wp2_with (go_at_call 30; refine (hkey _).mono ?_; rintro e w' ⟨rfl, hw⟩; have hw2 := hw.symm; subst hw2)
        go_round
        case rel => exact ⟨k + 1, by omega, by go_num, by show _ = _; rw [take_next HN.out hlt HS.out]; exact allK_snoc HT.out HKS.out.symm⟩
        case measure => simp [intOf]; omega
    · have HALL : Hid (allK l = true) := by have := HT.out; rw [take_all HN.out hlt] at this; exact this
      have HR1 : Hid (r = if riseB 0 l = false then 1 else 0) := by show _ = _; rw [HR.out]; unfold badR; rw [if_neg (by rw [HALL.out]; simp)]
      clear HT HR
      go_wp2
      go_loopw [4] (fun i wr => ∃ j : Nat, (j + 1 ≤ n ∨ (n = 0 ∧ j = 0)) ∧ i = .int .i64 ((j : Int) + 1) ∧ Hid (riseB 0 (l.take (j + 1)) = true) ∧ Below w.heap.size w wr) (fun i _ => n - (intOf i).toNat)
      case atStart => exact ⟨0, by omega, by go_num, riseB_fst1 HALL.out, Below.refl _ _⟩
      case round =>
        obtain ⟨j, hj, rfl, HT, hbel⟩ := hrel
        by_cases hlt2 : j + 1 < n
        · rcases HI.out.2 with h0 | ⟨b0, o0, e0, l0, d0⟩
          · omega
          subst e0
          obtain ⟨s, hs⟩ : ∃ s, s = l.getD (j + 1) 0 := ⟨_, rfl⟩
          obtain ⟨t, ht⟩ : ∃ t, t = l.getD j 0 := ⟨_, rfl⟩
          have x0 := (hbel.cell (p := ⟨b0, o0 + (j + 1), none⟩) l0).trans (d0 (j + 1) hlt2)
          have x1 := (hbel.cell (p := ⟨b0, o0 + j, none⟩) l0).trans (d0 j (by omega))
          rw [← hs] at x0
          rw [← ht] at x1
          have HS : Hid (s = l.getD (j + 1) 0) := hs
          have HTT : Hid (t = l.getD j 0) := ht
          clear hs ht d0
          have hki : (j : Int) + 1 < (n : Int) := by omega
          have hkj : (j : Int) < (n : Int) := by omega
          by_cases hst : s ≤ t
          · obtain rfl : r = 1 := by
              rw [HR1.out, if_pos]
              refine riseB_pre (pre := l.take (j + 1 + 1)) (List.take_prefix _ _) ?_
              rw [take_next HN.out hlt2 HS.out, riseB_snoc, lastK_take HN.out (by omega) HTT.out, decide_eq_false (by omega), Bool.and_false]
            go_wp2
            go_quiet (fail)
            go_wp2
            go_ret
            exact ⟨rfl, hbel.trans (Joins.below_draws _ _ _)⟩
          · go_wp2
            go_quiet (fail)
            go_wp2
            go_roundw
            case rel => exact ⟨j + 1, by omega, by go_num, by show _ = _; rw [take_next HN.out hlt2 HS.out, riseB_snoc, lastK_take HN.out (by omega) HTT.out, HT.out, decide_eq_true (by omega)]; rfl, hbel.trans (Joins.below_draws _ _ _)⟩
            case measure => simp [intOf]; omega
        · obtain rfl : r = 0 := by
            have := HT.out
            rw [take_all HN.out hlt2] at this
            rw [HR1.out, if_neg (by rw [this]; simp)]
          have hki : ¬ (j : Int) + 1 < (n : Int) := by omega
          go_wp2
          go_ret
          exact ⟨rfl, hbel⟩

theorem good_hit {l t : List Int} {n k : Nat} {s : Int} (hn : l.length = n) (hlt : k < n) (hs : s = l.getD k 0) (h : hasK t s = true) : goodL (l.take (k + 1)) t = goodL (l.take k) t := by
  unfold goodL
  rw [take_next hn hlt hs, List.filter_append]
  simp [h]
theorem good_miss {l t : List Int} {n k : Nat} {s : Int} (hn : l.length = n) (hlt : k < n) (hs : s = l.getD k 0) (h : hasK t s = false) : goodL (l.take (k + 1)) t = goodL (l.take k) t ++ [s] := by
  unfold goodL
  rw [take_next hn hlt hs, List.filter_append]
  simp [h]
theorem good_le (l t : List Int) : (goodL l t).length ≤ l.length := List.length_filter_le _ _

set_option maxRecDepth 20000 in
set_option maxHeartbeats 2000000 in
theorem l12Good_any (P n cap m d : Nat) (a b : Option Addr) (l t : List Int) (x : Int) (w : World) (hn : n ≤ 8) (hm : m ≤ maxLen) (hI : IAt w a n l) (hJ : IAt w b m t) (hP : w.heap[P]? = some (.cells #[.slice a n cap, .int .i64 x] 26 (0, 0))) :
    Calls Try.prog 21 #[.pointer (some ⟨P, 0, none⟩), .slice b m d] w fun e w' => ∃ va vc, e = .returned (.slice va (goodL l t).length vc) ∧ w'.ownsRow w.heap.size 2 1 (.slice va (goodL l t).length vc) (goodL l t).length (ints (goodL l t)) ∧ Below w.heap.size w w' := by
  have HI : Hid (IAt w a n l) := hI
  have HJ : Hid (IAt w b m t) := hJ
  have HN : Hid (l.length = n) := hI.1
  obtain ⟨p0, p1⟩ := cells2 hP
  have hPl := lt_of_block hP
  have HML : Hid (m ≤ maxLen) := hm
  have HE : Hid ((w.alloc (.cells #[] 2)).heap[w.heap.size]? = some (.cells #[] 2 (0, 0))) := heap_alloc_new _ _
  clear hI hJ hP hm
  go_enter Try.func21, Try.ntmps21
  go_wp2
  go_loopw [5, 6] (fun v i wr => ∃ j : Nat, j ≤ n ∧ i = .int .i64 j ∧ Below w.heap.size w wr ∧ ∃ va vc, v = .slice va (goodL (l.take j) t).length vc ∧ Hid (wr.ownsRow w.heap.size 2 1 (.slice va (goodL (l.take j) t).length vc) (goodL (l.take j) t).length (ints (goodL (l.take j) t)))) (fun _ i _ => n - (intOf i).toNat)
  case atStart => exact ⟨0, Nat.zero_le _, rfl, below_box _, _, _, rfl, own_empty HE.out (Nat.le_refl _)⟩
  case round =>
    obtain ⟨j, hj, rfl, hbel, va, vc, rfl, HO⟩ := hrel
    have y0 := (hbel.cell (p := ⟨P, 0, none⟩) hPl).trans p0
    by_cases hlt : j < n
    · rcases HI.out.2 with h0 | ⟨b0, o0, e0, l0, d0⟩
      · omega
      subst e0
      obtain ⟨s, hs⟩ : ∃ s, s = l.getD j 0 := ⟨_, rfl⟩
      have x0 := (hbel.cell (p := ⟨b0, o0 + j, none⟩) l0).trans (d0 j hlt)
      rw [← hs] at x0
      have HS : Hid (s = l.getD j 0) := hs
      obtain ⟨ks, hks⟩ : ∃ z, z = hasK t s := ⟨_, rfl⟩
      have hA := l4Among_any b m d t s wr HML.out (HJ.out.below hbel (Nat.le_refl _))
      rw [← hks] at hA
      have HKS : Hid (hasK t s = ks) := hks.symm
      have hki : (j : Int) < (n : Int) := by omega
      have hgl : (goodL (l.take j) t).length ≤ j := by have := good_le (l.take j) t; rw [List.length_take] at this; omega
      clear hs d0 hks
      cases ks
      · have HTS : Hid (goodL (l.take (j + 1)) t = goodL (l.take j) t ++ [s]) := good_miss HN.out hlt HS.out HKS.out
        obtain ⟨q, hq⟩ : ∃ q, q = goodL (l.take j) t := ⟨_, rfl⟩
        rw [← hq] at HO HTS hgl ⊢
        have hsz := hbel.size
        obtain ⟨g5, c5, w5, hrun, HC5⟩ := int_added (k := s) (X := wr.heap.size) (HO.out.alloc (.cells #[.int .i64 s] 2)) (heap_alloc_at _ _ _ rfl) (by omega) (by simp; omega)
        have HB5 : Hid (Below w.heap.size w w5) := (hbel.trans ((below_box _).mono hbel.size)).grown HC5.out.2 (by simp; omega) (fun k hk => (HO.out.lt k hk).1)
        clear hsz hq
        go_wp2_with (first
          | (go_at_call 31; (with_reducible refine hA.mono ?_); clear hA; rintro e w' ⟨rfl, hw⟩; have hw2 := hw.symm; subst hw2)
          | (at_builtin; go_must (refine wpList_append_runC (by rfl) _ _ _ (by rfl) (by rfl) (by rfl) hrun ?_); clear hrun))
        go_roundw
        case rel => exact ⟨j + 1, by omega, by go_num, HB5.out, _, _, by rw [HTS.out, List.length_append]; rfl, by rw [HTS.out, List.length_append]; exact HC5.out.1⟩
        case measure => simp [intOf]; omega
      · have HTS : Hid (goodL (l.take (j + 1)) t = goodL (l.take j) t) := good_hit HN.out hlt HS.out HKS.out
        go_wp2_with (go_at_call 31; (with_reducible refine hA.mono ?_); clear hA; rintro e w' ⟨rfl, hw⟩; have hw2 := hw.symm; subst hw2)
        go_roundw
        case rel => exact ⟨j + 1, by omega, by go_num, hbel, va, vc, by rw [HTS.out], by rw [HTS.out]; exact HO.out⟩
        case measure => simp [intOf]; omega
    · have HTF : Hid (l.take j = l) := take_all HN.out hlt
      have hki : ¬ (j : Int) < (n : Int) := by omega
      go_wp2
      go_ret
      refine ⟨va, vc, by rw [HTF.out]; rfl, ?_, hbel⟩
      have := HO.out
      rw [HTF.out] at this
      exact this

end Go.Proofs.Ytmnahhojfcigmaa
