/- What a key alone can spend: among keys, the specification's sum and the program's; OwnedBy. -/
import Derived.Test.YtdfijlcjmllplaaLCoinSum
namespace Go.Proofs.Ytdfijlcjmllplaa
open Go.RowKit Go.Maps Go.WideMaps

theorem mem_take_next {l : List Int} {n k : Nat} {s v : Int} (hn : l.length = n) (hlt : k < n) (hs : s = l.getD k 0) (h : v ∉ l.take k) (hv : ¬ s = v) : v ∉ l.take (k + 1) := by
  rw [take_next hn hlt hs, List.mem_append]
  rintro (h' | h')
  · exact h h'
  · exact hv (List.mem_singleton.1 h').symm
theorem mem_hit {l : List Int} {n k : Nat} {s v : Int} (hn : l.length = n) (hlt : k < n) (hs : s = l.getD k 0) (hv : s = v) : v ∈ l := by
  rw [← hv, hs]
  have e : l.getD k 0 = l[k]'(by omega) := by simp [List.getD, List.getElem?_eq_getElem (show k < l.length by omega)]
  rw [e]; exact List.getElem_mem _

def hasK (l : List Int) (v : Int) : Bool := decide (v ∈ l)
theorem hasK_yes {l : List Int} {v : Int} (h : v ∈ l) : hasK l v = true := decide_eq_true h
theorem hasK_no {l : List Int} {v : Int} (h : v ∉ l) : hasK l v = false := decide_eq_false h

theorem l4Among_any (a : Option Addr) (n cap : Nat) (l : List Int) (v : Int) (w : World) (hl : n ≤ maxLen) (hs : IAt w a n l) :
    Calls Try.prog 38 #[.slice a n cap, .int .i64 v] w fun e w' => e = .returned (.bool (hasK l v)) ∧ w' = w := by
  unfold maxLen at hl
  have HN : Hid (l.length = n) := hs.1
  have HSS : Hid (IAt w a n l) := hs
  obtain ⟨r, hr⟩ : ∃ r, r = hasK l v := ⟨_, rfl⟩
  rw [← hr]
  have HR : Hid (r = hasK l v) := hr
  clear hs hr
  go_enter Try.func38, Try.ntmps38
  go_wp2
  go_loopw [5] (fun i wr => ∃ k : Nat, k ≤ n ∧ i = .int .i64 k ∧ Hid (v ∉ l.take k) ∧ wr = w) (fun i _ => n - (intOf i).toNat)
  case atStart => exact ⟨0, Nat.zero_le _, rfl, by show v ∉ _; simp, rfl⟩
  case round =>
    obtain ⟨k, hk, rfl, HJ, hw⟩ := hrel
    have hw2 := hw.symm
    subst hw2
    by_cases hlt : k < n
    · rcases HSS.out.2 with h0 | ⟨b, off, ha, hb, hc⟩
      · omega
      subst ha
      obtain ⟨s, hsx⟩ : ∃ s, s = l.getD k 0 := ⟨_, rfl⟩
      have hcx := hc k hlt
      rw [← hsx] at hcx
      have HS : Hid (s = l.getD k 0) := hsx
      clear hc hsx
      have hki : (k : Int) < (n : Int) := by omega
      by_cases hv : s = v
      · obtain rfl : r = true := by rw [HR.out]; exact hasK_yes (mem_hit HN.out hlt HS.out hv)
        have e : (s == v) = true := by simp [hv]
        have H1 : Hid (s = v) := hv
        clear hv
        go_wp2
        go_ret
        exact ⟨rfl, rfl⟩
      · have e : (s == v) = false := by simp [hv]
        have H1 : Hid (¬ s = v) := hv
        clear hv
        go_wp2
        go_roundw
        case rel => exact ⟨k + 1, by omega, by go_num, mem_take_next HN.out hlt HS.out HJ.out H1.out, (by first | rfl | trivial)⟩
        case measure => simp [intOf]; omega
    · obtain rfl : r = false := by rw [HR.out]; exact hasK_no (by have := HJ.out; rwa [take_all HN.out hlt] at this)
      go_wp2
      go_ret
      exact ⟨rfl, rfl⟩

theorem iIndex_any (a : Option Addr) (n cap : Nat) (l : List Int) (v : Int) (w : World) (hl : n ≤ maxLen) (hs : IAt w a n l) :
    Calls Try.prog 69 #[.slice a n cap, .int .i64 v] w fun e w' => ∃ i : Int, e = .returned (.int .i64 i) ∧ Hid (hasK l v = decide (0 ≤ i)) ∧ w' = w := by
  unfold maxLen at hl
  have HN : Hid (l.length = n) := hs.1
  have HSS : Hid (IAt w a n l) := hs
  clear hs
  go_enter Try.func69, Try.ntmps69
  go_wp2
  go_loopw [8] (fun i wr => ∃ k : Nat, k ≤ n ∧ i = .int .i64 k ∧ Hid (v ∉ l.take k) ∧ wr = w) (fun i _ => n - (intOf i).toNat)
  case atStart => exact ⟨0, Nat.zero_le _, rfl, by show v ∉ _; simp, rfl⟩
  case round =>
    obtain ⟨k, hk, rfl, HJ, hw⟩ := hrel
    have hw2 := hw.symm
    subst hw2
    by_cases hlt : k < n
    · rcases HSS.out.2 with h0 | ⟨b, off, ha, hb, hc⟩
      · omega
      subst ha
      obtain ⟨s, hsx⟩ : ∃ s, s = l.getD k 0 := ⟨_, rfl⟩
      have hcx := hc k hlt
      rw [← hsx] at hcx
      have HS : Hid (s = l.getD k 0) := hsx
      clear hc hsx
      have hki : (k : Int) < (n : Int) := by omega
      by_cases hv : s = v
      · have e : (v == s) = true := by simp [hv]
        have H1 : Hid (s = v) := hv
        clear hv
        go_wp2
        go_ret
        refine ⟨_, rfl, ?_, rfl⟩
        show _ = _
        rw [hasK_yes (mem_hit HN.out hlt HS.out H1.out)]; simp
      · have e : (v == s) = false := by simp; exact fun h => hv h.symm
        have H1 : Hid (¬ s = v) := hv
        clear hv
        go_wp2
        go_roundw
        case rel => exact ⟨k + 1, by omega, by go_num, mem_take_next HN.out hlt HS.out HJ.out H1.out, (by first | rfl | trivial)⟩
        case measure => simp [intOf]; omega
    · go_wp2
      go_ret
      refine ⟨_, rfl, ?_, rfl⟩
      show _ = _
      rw [hasK_no (by have := HJ.out; rwa [take_all HN.out hlt] at this)]; rfl

theorem iContains_any (a : Option Addr) (n cap : Nat) (l : List Int) (v : Int) (w : World) (hl : n ≤ maxLen) (hs : IAt w a n l) :
    Calls Try.prog 54 #[.slice a n cap, .int .i64 v] w fun e w' => e = .returned (.bool (hasK l v)) ∧ w' = w := by
  have hI := iIndex_any a n cap l v w hl hs
  obtain ⟨r, hr⟩ : ∃ r, r = hasK l v := ⟨_, rfl⟩
  rw [← hr]
  rw [← hr] at hI
  clear hs hr
  go_enter Try.func54, Try.ntmps54
  go_wp2_with (go_at_call 69; refine hI.mono ?_; rintro e w2 ⟨i, rfl, HM, rfl⟩)
  go_ret
  exact ⟨by rw [HM.out]; rfl, rfl⟩

def aloneB (c : Co) (k : Int) : Bool := decide (c.x = 1) && hasK c.l k

theorem canSpend_any (a : Option Addr) (n cap : Nat) (c : Co) (k : Int) (w : World) (hl : n ≤ maxLen) (hs : IAt w a n c.l) :
    Calls Try.prog 32 #[.agg #[.slice a n cap, .int .i64 c.x, .int .i64 c.y], .int .i64 k] w fun e w' => e = .returned (.bool (aloneB c k)) ∧ Below w.heap.size w w' := by
  obtain ⟨p, q, v, l, x, y, h, m⟩ := c
  simp only at hs
  have hbx : Below w.heap.size w (w.alloc (.cells #[.slice a n cap, .int .i64 x, .int .i64 y] 34)) := below_box _
  have hC := iContains_any a n cap l k (w.alloc (.cells #[.slice a n cap, .int .i64 x, .int .i64 y] 34)) hl (hs.below hbx (Nat.le_refl _))
  clear hs
  by_cases hx : x = 1
  · have e1 : (x == 1) = true := by simp [hx]
    have e : aloneB ⟨p, q, v, l, x, y, h, m⟩ k = hasK l k := by unfold aloneB; simp [hx]
    rw [e]
    clear e hx
    go_enter Try.func32, Try.ntmps32
    go_wp2_with (go_at_call 54; refine hC.mono ?_; rintro e w2 ⟨rfl, hw⟩; have hw2 := hw.symm; subst hw2)
    go_ret
    exact ⟨rfl, hbx⟩
  · have e1 : (x == 1) = false := by simp [hx]
    have e : aloneB ⟨p, q, v, l, x, y, h, m⟩ k = false := by unfold aloneB; simp [hx]
    rw [e]
    clear e hx
    go_enter Try.func32, Try.ntmps32
    go_wp2
    go_ret
    exact ⟨rfl, hbx⟩

def ownsR (k : Int) (cs : List Co) : Int := valsR (cs.filter fun c => aloneB c k)
theorem valsR_append (l t : List Co) : valsR (l ++ t) = valsR l + valsR t := by
  induction l with
  | nil => simp [valsR]
  | cons c r ih => simp only [List.cons_append, valsR, ih]; omega
theorem take_coin {cs : List Co} {n j : Nat} {o : Co} (hn : cs.length = n) (hlt : j < n) (ho : o = cs.getD j C0) : cs.take (j + 1) = cs.take j ++ [o] := by
  have e : cs.getD j C0 = cs[j]'(by omega) := by simp [List.getD, List.getElem?_eq_getElem (show j < cs.length by omega)]
  rw [List.take_add_one, ho, e, List.getElem?_eq_getElem (by omega)]; rfl
theorem owns_yes {k : Int} {cs : List Co} {n j : Nat} {o : Co} (hn : cs.length = n) (hlt : j < n) (ho : o = cs.getD j C0) (h : aloneB o k = true) : ownsR k (cs.take (j + 1)) = ownsR k (cs.take j) + o.v := by
  unfold ownsR
  rw [take_coin hn hlt ho, List.filter_append, valsR_append]
  simp [h, valsR]
theorem owns_no {k : Int} {cs : List Co} {n j : Nat} {o : Co} (hn : cs.length = n) (hlt : j < n) (ho : o = cs.getD j C0) (h : aloneB o k = false) : ownsR k (cs.take (j + 1)) = ownsR k (cs.take j) := by
  unfold ownsR
  rw [take_coin hn hlt ho, List.filter_append, valsR_append]
  simp [h, valsR]
theorem owns_bound {k : Int} {cs : List Co} {n j : Nat} (h : ValsOk cs) (hn : cs.length = n) (h40 : n ≤ 40) : 0 ≤ ownsR k (cs.take j) ∧ ownsR k (cs.take j) ≤ 40000000 := by
  have h1 := vals_le (cs := (cs.take j).filter fun c => aloneB c k) (fun c hc => h.take j c (List.mem_filter.1 hc).1)
  have h2 : ((cs.take j).filter fun c => aloneB c k).length ≤ 40 := Nat.le_trans (List.length_filter_le _ _) (by rw [List.length_take]; omega)
  unfold ownsR
  omega

/-- What OwnedBy answers: a code, and the values together. -/
def ownedR (cs : List Co) (k : Int) : Int × Int := if coinsR cs = 0 then (0, ownsR k cs) else (coinsR cs, 0)

set_option maxRecDepth 20000 in
set_option maxHeartbeats 2000000 in
theorem sOwnedBy_any (n c : Nat) (a : Option Addr) (cs : List Co) (key : Int) (w : World) (hn : n ≤ 1048576) (hk : ∀ j, j < n → (cs.getD j C0).l.length ≤ 1048576) (hC : CAt w a n cs) :
    Calls Try.prog 14 #[.slice a n c, .int .i64 key] w fun e w' => e = .returned (.agg #[.int .i64 (ownedR cs key).1, .int .i64 (ownedR cs key).2]) ∧ Below w.heap.size w w' := by
  have hbx : Below w.heap.size w (w.alloc (.cells #[.int .i64 0, .int .i64 0] 44)) := below_box _
  have hF := l4Fault_any n c a cs (w.alloc (.cells #[.int .i64 0, .int .i64 0] 44)) hn hk (hC.below hbx (Nat.le_refl _))
  have HX : Hid ((w.alloc (.cells #[.int .i64 0, .int .i64 0] 44)).heap[w.heap.size]? = some (.cells #[.int .i64 0, .int .i64 0] 44 (0, 0))) := heap_alloc_new _ _
  have HB : Hid (Below w.heap.size w (w.alloc (.cells #[.int .i64 0, .int .i64 0] 44))) := hbx
  obtain ⟨cd, hcd⟩ : ∃ r, r = coinsR cs := ⟨_, rfl⟩
  rw [← hcd] at hF
  have HC : Hid (CAt w a n cs) := hC
  have HN : Hid (cs.length = n) := hC.1
  have HKL : Hid (∀ j, j < n → (cs.getD j C0).l.length ≤ 1048576) := hk
  by_cases h0 : cd = 0
  · subst h0
    obtain ⟨h40, hv⟩ := coins_ok hcd.symm
    rw [hC.1] at h40
    have e : ownedR cs key = (0, ownsR key cs) := by unfold ownedR; rw [if_pos hcd.symm]
    rw [e]
    have HVS : Hid (ValsOk cs) := hv
    clear hcd e hv hC hk hbx
    go_enter Try.func14, Try.ntmps14
    go_wp2_with (first
      | (go_at_call 25; (with_reducible refine hF.mono ?_); clear hF; rintro e w2 ⟨rfl, hb2⟩; have HX2 := keepb HX.out hb2; have HB2 : Hid (Below w.heap.size w w2) := HB.out.trans (hb2.mono HB.out.size); clear hb2))
    go_loopw [6, 7] (fun t i wr => ∃ j : Nat, j ≤ n ∧ i = .int .i64 j ∧ ∃ v : Int, t = .int .i64 v ∧ Hid (v = ownsR key (cs.take j)) ∧ Below w.heap.size w wr ∧ Hid (wr.heap[w.heap.size]? = some (.cells #[.int .i64 0, .int .i64 0] 44 (0, 0)))) (fun _ i _ => n - (intOf i).toNat)
    case atStart => exact ⟨0, Nat.zero_le _, rfl, _, rfl, rfl, HB2.out, HX2⟩
    case round =>
      obtain ⟨j, hj, rfl, v, rfl, HT, hbel, HXW⟩ := hrel
      by_cases hlt : j < n
      · rcases HC.out.2 with h0 | ⟨b, off, e0, l0, d0⟩
        · omega
        subst e0
        obtain ⟨o, ho⟩ : ∃ o, o = cs.getD j C0 := ⟨_, rfl⟩
        obtain ⟨ka, kc, p0, p4, p5⟩ := d0 j hlt
        rw [← ho] at p0 p4 p5
        have HS : Hid (o = cs.getD j C0) := ho
        have hol := HKL.out j hlt
        rw [← ho] at hol
        have HV := HVS.out o (by rw [ho]; exact mem_getD hlt HN.out)
        obtain ⟨op, oq, ov, ol, ox, oy, oh, om⟩ := o
        obtain ⟨x0, x1, x2, x3, x4, x5, x6, x7⟩ := p0.below hbel l0
        simp only at x0 x1 x2 x3 x4 x5 x6 x7 p4 p5 HV hol
        have HNX : Hid (cs.drop j = (⟨op, oq, ov, ol, ox, oy, oh, om⟩ : Co) :: cs.drop (j + 1)) := next_coin HN.out hlt HS.out
        have hki : (j : Int) < (n : Int) := by omega
        have hb0 := owns_bound (k := key) (j := j) HVS.out HN.out h40
        rw [← HT.out] at hb0
        have hwr := IntWalk.i64_in (v + ov) (by omega)
        have HI : Hid (IAt w ka ol.length ol) := p5
        clear ho d0 p0 p5
        have hA := l4Among_any ka ol.length kc ol key wr p4 (HI.out.below hbel (Nat.le_refl _))
        obtain ⟨km, hkm⟩ : ∃ b, b = hasK ol key := ⟨_, rfl⟩
        rw [← hkm] at hA
        have HKM : Hid (km = hasK ol key) := hkm
        clear hkm
        by_cases hx : ox = 1
        · have e1 : (ox == 1) = true := by simp [hx]
          have HXX : Hid (ox = 1) := hx
          clear hx
          cases km
          · have HTN : Hid (v = ownsR key (cs.take (j + 1))) := by
              show _ = _
              rw [owns_no HN.out hlt HS.out (by unfold aloneB; rw [← HKM.out]; simp), HT.out]
            go_wp2_with (first | (go_at_call 38; (with_reducible refine hA.mono ?_); rintro e w3 ⟨rfl, hw⟩; have hw2 := hw.symm; subst hw2))
            go_roundw
            case rel => exact ⟨j + 1, by omega, by go_num, _, rfl, HTN, hbel, HXW⟩
            case measure => simp [intOf]; omega
          · have HTN : Hid (v + ov = ownsR key (cs.take (j + 1))) := by
              show _ = _
              rw [owns_yes HN.out hlt HS.out (by unfold aloneB; rw [← HKM.out]; simp [HXX.out]), HT.out]
            go_wp2_with (first | (go_at_call 38; (with_reducible refine hA.mono ?_); rintro e w3 ⟨rfl, hw⟩; have hw2 := hw.symm; subst hw2))
            go_roundw
            case rel => exact ⟨j + 1, by omega, by go_num, _, rfl, HTN, hbel, HXW⟩
            case measure => simp [intOf]; omega
        · have e1 : (ox == 1) = false := by simp [hx]
          have HTN : Hid (v = ownsR key (cs.take (j + 1))) := by
            show _ = _
            rw [owns_no HN.out hlt HS.out (by unfold aloneB; simp [hx]), HT.out]
          clear hx
          go_wp2
          go_roundw
          case rel => exact ⟨j + 1, by omega, by go_num, _, rfl, HTN, hbel, HXW⟩
          case measure => simp [intOf]; omega
      · obtain rfl : v = ownsR key cs := by rw [HT.out, List.take_of_length_le (by rw [HN.out]; omega)]
        obtain ⟨y0, y1⟩ := cells2 HXW.out
        have f0 := Joins.unfrozen_of_block HXW.out 0
        have f1 := Joins.unfrozen_of_block HXW.out 1
        go_wp2
        obtain ⟨_, j1⟩ := two_set HXW.out (.int .i64 0) (.int .i64 (ownsR key cs))
        refine bodyPost_ret (v := .agg #[.int .i64 0, .int .i64 (ownsR key cs)]) (by simp [results, Try.results14, go_sem, j1]) rfl ⟨rfl, (hbel.setCell (p := ⟨w.heap.size, 0, none⟩) (Nat.le_refl _) _).setCell (p := ⟨w.heap.size, 1, none⟩) (Nat.le_refl _) _⟩
  · have e : ownedR cs key = (cd, 0) := by unfold ownedR; rw [← hcd, if_neg h0]
    rw [e]
    clear hcd e hC hk hbx
    go_enter Try.func14, Try.ntmps14
    go_wp2_with (first
      | (go_at_call 25; (with_reducible refine hF.mono ?_); clear hF; rintro e w2 ⟨rfl, hb2⟩; have HX2 := keepb HX.out hb2; obtain ⟨y0, y1⟩ := cells2 HX2.out; have f0 := Joins.unfrozen_of_block HX2.out 0; have f1 := Joins.unfrozen_of_block HX2.out 1; have HB2 : Hid (Below w.heap.size w w2) := HB.out.trans (hb2.mono HB.out.size); clear hb2))
    obtain ⟨_, j1⟩ := two_set HX2.out (.int .i64 cd) (.int .i64 0)
    refine bodyPost_ret (v := .agg #[.int .i64 cd, .int .i64 0]) (by simp [results, Try.results14, go_sem, j1]) rfl ⟨rfl, (HB2.out.setCell (p := ⟨w.heap.size, 0, none⟩) (Nat.le_refl _) _).setCell (p := ⟨w.heap.size, 1, none⟩) (Nat.le_refl _) _⟩

set_option maxRecDepth 20000 in
set_option maxHeartbeats 2000000 in
theorem iOwnedBy_any (n c : Nat) (a : Option Addr) (cs : List Co) (key : Int) (w : World) (hn : n ≤ 1048576) (hk : ∀ j, j < n → (cs.getD j C0).l.length ≤ 1048576) (hC : CAt w a n cs) :
    Calls Try.prog 10 #[.slice a n c, .int .i64 key] w fun e w' => e = .returned (.agg #[.int .i64 (ownedR cs key).1, .int .i64 (ownedR cs key).2]) ∧ Below w.heap.size w w' := by
  have hbx : Below w.heap.size w (w.alloc (.cells #[.int .i64 0, .int .i64 0] 44)) := below_box _
  have hF := iCoinsFault_any n c a cs (w.alloc (.cells #[.int .i64 0, .int .i64 0] 44)) hn hk (hC.below hbx (Nat.le_refl _))
  have HX : Hid ((w.alloc (.cells #[.int .i64 0, .int .i64 0] 44)).heap[w.heap.size]? = some (.cells #[.int .i64 0, .int .i64 0] 44 (0, 0))) := heap_alloc_new _ _
  have HB : Hid (Below w.heap.size w (w.alloc (.cells #[.int .i64 0, .int .i64 0] 44))) := hbx
  obtain ⟨cd, hcd⟩ : ∃ r, r = coinsR cs := ⟨_, rfl⟩
  rw [← hcd] at hF
  have HC : Hid (CAt w a n cs) := hC
  have HN : Hid (cs.length = n) := hC.1
  have HKL : Hid (∀ j, j < n → (cs.getD j C0).l.length ≤ 1048576) := hk
  by_cases h0 : cd = 0
  · subst h0
    obtain ⟨h40, hv⟩ := coins_ok hcd.symm
    rw [hC.1] at h40
    have e : ownedR cs key = (0, ownsR key cs) := by unfold ownedR; rw [if_pos hcd.symm]
    rw [e]
    have HVS : Hid (ValsOk cs) := hv
    clear hcd e hv hC hk hbx
    go_enter Try.func10, Try.ntmps10
    go_wp2_with (first
      | (go_at_call 11; (with_reducible refine hF.mono ?_); clear hF; rintro e w2 ⟨rfl, hb2⟩; have HX2 := keepb HX.out hb2; have HB2 : Hid (Below w.heap.size w w2) := HB.out.trans (hb2.mono HB.out.size); clear hb2))
    go_loopw [6, 17] (fun t i wr => ∃ j : Nat, j ≤ n ∧ i = .int .i64 j ∧ ∃ v : Int, t = .int .i64 v ∧ Hid (v = ownsR key (cs.take j)) ∧ Below w.heap.size w wr ∧ Hid (wr.heap[w.heap.size]? = some (.cells #[.int .i64 0, .int .i64 0] 44 (0, 0)))) (fun _ i _ => n - (intOf i).toNat)
    case atStart => exact ⟨0, Nat.zero_le _, rfl, _, rfl, rfl, HB2.out, HX2⟩
    case round =>
      obtain ⟨j, hj, rfl, v, rfl, HT, hbel, HXW⟩ := hrel
      by_cases hlt : j < n
      · rcases HC.out.2 with h0 | ⟨b, off, e0, l0, d0⟩
        · omega
        subst e0
        obtain ⟨o, ho⟩ : ∃ o, o = cs.getD j C0 := ⟨_, rfl⟩
        obtain ⟨ka, kc, p0, p4, p5⟩ := d0 j hlt
        rw [← ho] at p0 p4 p5
        have HS : Hid (o = cs.getD j C0) := ho
        have hol := HKL.out j hlt
        rw [← ho] at hol
        have HV := HVS.out o (by rw [ho]; exact mem_getD hlt HN.out)
        obtain ⟨op, oq, ov, ol, ox, oy, oh, om⟩ := o
        obtain ⟨x0, x1, x2, x3, x4, x5, x6, x7⟩ := p0.below hbel l0
        simp only at x0 x1 x2 x3 x4 x5 x6 x7 p4 p5 HV hol
        have HNX : Hid (cs.drop j = (⟨op, oq, ov, ol, ox, oy, oh, om⟩ : Co) :: cs.drop (j + 1)) := next_coin HN.out hlt HS.out
        have hki : (j : Int) < (n : Int) := by omega
        have hb0 := owns_bound (k := key) (j := j) HVS.out HN.out h40
        rw [← HT.out] at hb0
        have hwr := IntWalk.i64_in (v + ov) (by omega)
        have HI : Hid (IAt w ka ol.length ol) := p5
        clear ho d0 p0 p5
        have hbx2 : Below wr.heap.size wr (wr.alloc (.cells #[.int .i64 op, .int .i64 oq, .int .i64 ov, .slice ka ol.length kc, .int .i64 ox, .int .i64 oy, .int .i64 oh, .bool om] 41)) := below_box _
        have hA := canSpend_any ka ol.length kc ⟨op, oq, ov, ol, ox, oy, oh, om⟩ key (wr.alloc (.cells #[.int .i64 op, .int .i64 oq, .int .i64 ov, .slice ka ol.length kc, .int .i64 ox, .int .i64 oy, .int .i64 oh, .bool om] 41)) p4 ((HI.out.below hbel (Nat.le_refl _)).below hbx2 (Nat.le_refl _))
        have HXC : Hid ((wr.alloc (.cells #[.int .i64 op, .int .i64 oq, .int .i64 ov, .slice ka ol.length kc, .int .i64 ox, .int .i64 oy, .int .i64 oh, .bool om] 41)).heap[wr.heap.size]? = some (.cells #[.int .i64 op, .int .i64 oq, .int .i64 ov, .slice ka ol.length kc, .int .i64 ox, .int .i64 oy, .int .i64 oh, .bool om] 41 (0, 0))) := heap_alloc_new _ _
        have HBW : Hid (Below w.heap.size w (wr.alloc (.cells #[.int .i64 op, .int .i64 oq, .int .i64 ov, .slice ka ol.length kc, .int .i64 ox, .int .i64 oy, .int .i64 oh, .bool om] 41))) := hbel.trans (hbx2.mono hbel.size)
        have HXR := keepb HXW.out hbx2
        obtain ⟨km, hkm⟩ : ∃ b, b = aloneB ⟨op, oq, ov, ol, ox, oy, oh, om⟩ key := ⟨_, rfl⟩
        rw [← hkm] at hA
        have HKM : Hid (aloneB ⟨op, oq, ov, ol, ox, oy, oh, om⟩ key = km) := hkm.symm
        clear hkm hbx2
        cases km
        · have HTN : Hid (v = ownsR key (cs.take (j + 1))) := by
            show _ = _
            rw [owns_no HN.out hlt HS.out HKM.out, HT.out]
          go_wp2_with (first | (go_at_call 32; (with_reducible refine hA.mono ?_); clear hA; rintro e w3 ⟨rfl, hb3⟩; have HB3 : Hid (Below w.heap.size w w3) := HBW.out.trans (hb3.mono HBW.out.size); have HXR3 := keepb HXR.out hb3; clear hb3))
          go_roundw
          case rel => exact ⟨j + 1, by omega, by go_num, _, rfl, HTN, HB3.out, HXR3⟩
          case measure => simp [intOf]; omega
        · have HTN : Hid (v + ov = ownsR key (cs.take (j + 1))) := by
            show _ = _
            rw [owns_yes HN.out hlt HS.out HKM.out, HT.out]
          go_wp2_with (first | (go_at_call 32; (with_reducible refine hA.mono ?_); clear hA; rintro e w3 ⟨rfl, hb3⟩; have HB3 : Hid (Below w.heap.size w w3) := HBW.out.trans (hb3.mono HBW.out.size); have HXR3 := keepb HXR.out hb3; have HXC3 := keepb HXC.out hb3; obtain ⟨⟨s0, s1, s2, s3, s4, s5, s6, s7⟩, _⟩ := cells8 HXC3.out; clear hb3))
          go_roundw
          case rel => exact ⟨j + 1, by omega, by go_num, _, rfl, HTN, HB3.out, HXR3⟩
          case measure => simp [intOf]; omega
      · obtain rfl : v = ownsR key cs := by rw [HT.out, List.take_of_length_le (by rw [HN.out]; omega)]
        obtain ⟨y0, y1⟩ := cells2 HXW.out
        have f0 := Joins.unfrozen_of_block HXW.out 0
        have f1 := Joins.unfrozen_of_block HXW.out 1
        go_wp2
        obtain ⟨_, j1⟩ := two_set HXW.out (.int .i64 0) (.int .i64 (ownsR key cs))
        refine bodyPost_ret (v := .agg #[.int .i64 0, .int .i64 (ownsR key cs)]) (by simp [results, Try.results10, go_sem, j1]) rfl ⟨rfl, (hbel.setCell (p := ⟨w.heap.size, 0, none⟩) (Nat.le_refl _) _).setCell (p := ⟨w.heap.size, 1, none⟩) (Nat.le_refl _) _⟩
  · have e : ownedR cs key = (cd, 0) := by unfold ownedR; rw [← hcd, if_neg h0]
    rw [e]
    clear hcd e hC hk hbx
    go_enter Try.func10, Try.ntmps10
    go_wp2_with (first
      | (go_at_call 11; (with_reducible refine hF.mono ?_); clear hF; rintro e w2 ⟨rfl, hb2⟩; have HX2 := keepb HX.out hb2; obtain ⟨y0, y1⟩ := cells2 HX2.out; have f0 := Joins.unfrozen_of_block HX2.out 0; have f1 := Joins.unfrozen_of_block HX2.out 1; have HB2 : Hid (Below w.heap.size w w2) := HB.out.trans (hb2.mono HB.out.size); clear hb2))
    obtain ⟨_, j1⟩ := two_set HX2.out (.int .i64 cd) (.int .i64 0)
    refine bodyPost_ret (v := .agg #[.int .i64 cd, .int .i64 0]) (by simp [results, Try.results10, go_sem, j1]) rfl ⟨rfl, (HB2.out.setCell (p := ⟨w.heap.size, 0, none⟩) (Nat.le_refl _) _).setCell (p := ⟨w.heap.size, 1, none⟩) (Nat.le_refl _) _⟩

end Go.Proofs.Ytdfijlcjmllplaa
