/- The specification's fault of coins. -/
import Derived.Test.YtobmongmmnldpaaDoorCnB
import Derived.Test.YtobmongmmnldpaaDoorTxS
namespace Go.Proofs.YtobmongmmnldpaaDoor
open Go.RowKit Go.Maps Go.WideMaps

def cmpI (a b : Int) : Int := if a < b then -1 else if b < a then 1 else 0
def cmpR (a b : Int × Int) : Int := if cmpI a.1 b.1 = 0 then cmpI a.2 b.2 else cmpI a.1 b.1
def outR (v : Int) (l : List Int) (x y : Int) : Int := if inB v 1 1000000 = false then 3 else ruleR l x y
def coinR (c : Co) : Int := if refB (c.p, c.q) = false ∨ inB c.h 0 999 = false then 3 else outR c.v c.l c.x c.y
def csR (pr : Int × Int) : List Co → Int
  | [] => 0
  | c :: t => if coinR c ≠ 0 then coinR c else if cmpR (c.p, c.q) pr ≤ 0 then 1 else csR (c.p, c.q) t
def prevR (cs : List Co) : Nat → Int × Int
  | 0 => (0, 0)
  | j + 1 => ((cs.getD j C0).p, (cs.getD j C0).q)
def coinsR (cs : List Co) : Int := if 40 < cs.length then 2 else csR (0, 0) cs

theorem cmpI_zero {a b : Int} : cmpI a b = 0 ↔ a = b := by
  unfold cmpI; by_cases h : a < b
  · simp [h]; omega
  · by_cases h2 : b < a
    · simp [h, h2]; omega
    · simp [h, h2]; omega
theorem cmpI_pos {a b : Int} : 0 < cmpI a b ↔ b < a := by
  unfold cmpI; by_cases h : a < b
  · simp [h]; omega
  · by_cases h2 : b < a <;> simp [h, h2]
theorem cmpR_pos {a b c d : Int} : 0 < cmpR (c, d) (a, b) ↔ a < c ∨ a = c ∧ b < d := by
  unfold cmpR
  by_cases h : c = a
  · subst h
    rw [if_pos (cmpI_zero.2 rfl), cmpI_pos]
    constructor
    · exact fun h => .inr ⟨rfl, h⟩
    · rintro (h | h)
      · omega
      · exact h.2
  · rw [if_neg (fun e => h (cmpI_zero.1 e)), cmpI_pos]
    constructor
    · exact .inl
    · rintro (h' | h')
      · exact h'
      · exact absurd h'.1.symm h
theorem coin_first {c : Co} (h : coinR c = 0) : ¬ cmpR (c.p, c.q) (0, 0) ≤ 0 := by
  have h1 : refB (c.p, c.q) = true := by
    cases e : refB (c.p, c.q)
    · unfold coinR at h; rw [if_pos (.inl e)] at h; cases h
    · rfl
  have h2 : 1 ≤ c.p := by
    simp [refB, inB] at h1
    omega
  have := (cmpR_pos (a := 0) (b := 0) (c := c.p) (d := c.q)).2 (.inl (by omega))
  omega
theorem csR_bad {c : Co} {t : List Co} {pr : Int × Int} {r : Int} (h : coinR c = r) (h0 : r ≠ 0) : csR pr (c :: t) = r := by rw [csR, h, if_pos h0]
theorem csR_form {c : Co} {t : List Co} {pr : Int × Int} (h : coinR c = 0) (h1 : cmpR (c.p, c.q) pr ≤ 0) : csR pr (c :: t) = 1 := by rw [csR, h, if_neg (by simp), if_pos h1]
theorem csR_go {c : Co} {t : List Co} {pr : Int × Int} (h : coinR c = 0) (h1 : ¬ cmpR (c.p, c.q) pr ≤ 0) : csR pr (c :: t) = csR (c.p, c.q) t := by rw [csR, h, if_neg (by simp), if_neg h1]
theorem prevR_succ {cs : List Co} {j : Nat} {o : Co} (ho : o = cs.getD j C0) : prevR cs (j + 1) = (o.p, o.q) := by rw [ho]; rfl
theorem next_coin {cs : List Co} {n j : Nat} {o : Co} (hn : cs.length = n) (hlt : j < n) (ho : o = cs.getD j C0) : cs.drop j = o :: cs.drop (j + 1) := by
  rw [ho, List.drop_eq_getElem_cons (by omega)]
  simp [List.getElem?_eq_getElem (show j < cs.length by omega)]

theorem l4Ahead_any (a b c d : Int) (w : World) : Calls Tryd.prog 21 #[.agg #[.int .i64 a, .int .i64 b], .agg #[.int .i64 c, .int .i64 d]] w fun e w' => e = .returned (.bool (decide (0 < cmpR (c, d) (a, b)))) ∧ Below w.heap.size w w' := by
  have hbx : Below w.heap.size w ((w.alloc (.cells #[.int .i64 a, .int .i64 b] 44)).alloc (.cells #[.int .i64 c, .int .i64 d] 44)) := below_box2 _ _
  by_cases h : a = c
  · subst h
    have hv : decide (0 < cmpR (a, d) (a, b)) = decide (b < d) := by
      rw [decide_eq_decide, cmpR_pos]; constructor
      · rintro (h | h)
        · omega
        · exact h.2
      · exact fun h => .inr ⟨rfl, h⟩
    rw [hv]
    go_enter Tryd.func21, Tryd.ntmps21
    go_wp2
    go_ret
    exact ⟨rfl, hbx⟩
  · have e : (a != c) = true := by simp [h]
    have hv : decide (0 < cmpR (c, d) (a, b)) = decide (a < c) := by
      rw [decide_eq_decide, cmpR_pos]; constructor
      · rintro (h' | h')
        · exact h'
        · exact absurd h'.1 h
      · exact .inl
    rw [hv]
    go_enter Tryd.func21, Tryd.ntmps21
    go_wp2
    go_ret
    exact ⟨rfl, hbx⟩

theorem l4Out_any (P q n cap : Nat) (a : Option Addr) (v : Int) (l : List Int) (x y : Int) (w : World) (hl : n ≤ 1048576) (hI : IAt w a n l) (hPl : P < w.heap.size) (pv : w.cell? ⟨P, q, none⟩ = some (.int .i64 v)) (p0 : w.cell? ⟨P, q + 1, none⟩ = some (.slice a n cap)) (p1 : w.cell? ⟨P, q + 2, none⟩ = some (.int .i64 x)) (p2 : w.cell? ⟨P, q + 3, none⟩ = some (.int .i64 y)) :
    Calls Tryd.prog 20 #[.pointer (some ⟨P, q, none⟩)] w fun e w' => e = .returned (.int .i64 (outR v l x y)) ∧ Below w.heap.size w w' := by
  have hlf := l2FaultAt_any P (q + 1) n cap a l x y w hl hI hPl p0 p1 p2
  obtain ⟨kv, hkv⟩ : ∃ k, k = inB v 1 1000000 := ⟨_, rfl⟩
  have hin : ∀ u, Calls Tryd.prog 35 #[.int .i64 v, .int .i64 1, .int .i64 1000000] u fun e w' => e = .returned (.bool kv) ∧ w' = u := fun u => by rw [hkv]; exact l1In_any _ _ _ u
  cases kv
  · have e : outR v l x y = 3 := by unfold outR; rw [if_pos hkv.symm]
    rw [e]
    clear hkv e hI
    go_enter Tryd.func20, Tryd.ntmps20
    go_wp2_with (go_at_call 35; refine (hin _).mono ?_; rintro e w' ⟨rfl, hw⟩; have hw2 := hw.symm; subst hw2)
    go_ret
    exact ⟨rfl, Below.refl _ _⟩
  · have e : outR v l x y = ruleR l x y := by unfold outR; rw [if_neg (by rw [← hkv]; simp)]
    rw [e]
    clear hkv e hI
    go_enter Tryd.func20, Tryd.ntmps20
    go_wp2_with (first | (go_at_call 35; refine (hin _).mono ?_; rintro e w' ⟨rfl, hw⟩; have hw2 := hw.symm; subst hw2) | (go_at_call 36; refine hlf.mono ?_; rintro e w3 ⟨rfl, hb3⟩))
    go_ret
    exact ⟨rfl, hb3⟩

set_option maxRecDepth 20000 in
set_option maxHeartbeats 2000000 in
theorem l4Fault_any (n c : Nat) (a : Option Addr) (cs : List Co) (w : World) (hn : n ≤ 1048576) (hk : ∀ j, j < n → (cs.getD j C0).l.length ≤ 1048576) (hC : CAt w a n cs) :
    Calls Tryd.prog 11 #[.slice a n c] w fun e w' => e = .returned (.int .i64 (coinsR cs)) ∧ Below w.heap.size w w' := by
  have HC : Hid (CAt w a n cs) := hC
  have HN : Hid (cs.length = n) := hC.1
  have HKL : Hid (∀ j, j < n → (cs.getD j C0).l.length ≤ 1048576) := hk
  obtain ⟨r, hr⟩ : ∃ r, r = coinsR cs := ⟨_, rfl⟩
  rw [← hr]
  have HR : Hid (r = coinsR cs) := hr
  clear hC hk hr
  by_cases h40 : 40 < n
  · obtain rfl : r = 2 := by rw [HR.out]; unfold coinsR; rw [if_pos (by rw [HN.out]; exact h40)]
    go_enter Tryd.func11, Tryd.ntmps11
    go_wp2
    go_ret
    exact ⟨rfl, Below.refl _ _⟩
  have HR2 : Hid (r = csR (0, 0) cs) := by show _ = _; rw [HR.out]; unfold coinsR; rw [if_neg (by rw [HN.out]; exact h40)]
  go_enter Tryd.func11, Tryd.ntmps11
  go_wp2
  go_loopw [3] (fun i wr => ∃ j : Nat, j ≤ n ∧ i = .int .i64 j ∧ Below w.heap.size w wr ∧ Hid (r = csR (prevR cs j) (cs.drop j))) (fun i _ => n - (intOf i).toNat)
  case atStart => exact ⟨0, Nat.zero_le _, rfl, Below.refl _ _, HR2.out⟩
  case round =>
    obtain ⟨j, hj, rfl, hbel, HT⟩ := hrel
    by_cases hlt : j < n
    · rcases HC.out.2 with h0 | ⟨b, off, e0, l0, d0⟩
      · omega
      subst e0
      obtain ⟨o, ho⟩ : ∃ o, o = cs.getD j C0 := ⟨_, rfl⟩
      obtain ⟨ka, kc, p0, p4, p5⟩ := d0 j hlt
      have hol := HKL.out j hlt
      rw [← ho] at p0 p4 p5 hol
      have HS : Hid (o = cs.getD j C0) := ho
      obtain ⟨op, oq, ov, ol, ox, oy, oh, om⟩ := o
      obtain ⟨x0, x1, x2, x3, x4, x5, x6, x7⟩ := p0.below hbel l0
      simp only at x0 x1 x2 x3 x4 x5 x6 x7 hol p5
      have HNX : Hid (cs.drop j = (⟨op, oq, ov, ol, ox, oy, oh, om⟩ : Co) :: cs.drop (j + 1)) := next_coin HN.out hlt HS.out
      have hlw : b < wr.heap.size := Nat.lt_of_lt_of_le l0 hbel.size
      obtain ⟨kr, hkr⟩ : ∃ k, k = refB (op, oq) := ⟨_, rfl⟩
      obtain ⟨kh, hkh⟩ : ∃ k, k = inB oh 0 999 := ⟨_, rfl⟩
      have hrf := l3Ref_any op oq wr
      rw [← hkr] at hrf
      have HKR : Hid (kr = refB (op, oq)) := hkr
      have hht : ∀ v, Calls Tryd.prog 19 #[.int .i64 oh] v fun e w' => e = .returned (.bool kh) ∧ w' = v := fun v => by rw [hkh]; exact l2Height_any _ v
      have HKH : Hid (kh = inB oh 0 999) := hkh
      have HI : Hid (IAt w ka ol.length ol) := p5
      obtain ⟨cd, hcd⟩ : ∃ c, c = outR ov ol ox oy := ⟨_, rfl⟩
      have HCD : Hid (cd = outR ov ol ox oy) := hcd
      clear ho p0 p4 p5 hkr hkh hcd
      have hki : (j : Int) < (n : Int) := by omega
      have HX : Hid (CoAt wr b (off + j * 8) ⟨op, oq, ov, ol, ox, oy, oh, om⟩ ka kc) := ⟨x0, x1, x2, x3, x4, x5, x6, x7⟩
      cases kr
      · obtain rfl : r = 3 := by
          have e : coinR ⟨op, oq, ov, ol, ox, oy, oh, om⟩ = 3 := by unfold coinR; rw [if_pos (.inl HKR.out.symm)]
          rw [HT.out, HNX.out, csR_bad e (by simp)]
        clear d0
        go_wp2_with (first | (go_at_call 18; refine hrf.mono ?_; clear hrf; rintro e w2 ⟨rfl, hb2⟩))
        go_ret
        exact ⟨rfl, hbel.trans (hb2.mono hbel.size)⟩
      cases kh
      · obtain rfl : r = 3 := by
          have e : coinR ⟨op, oq, ov, ol, ox, oy, oh, om⟩ = 3 := by unfold coinR; rw [if_pos (.inr HKH.out.symm)]
          rw [HT.out, HNX.out, csR_bad e (by simp)]
        clear d0
        go_wp2_with (first | (go_at_call 18; refine hrf.mono ?_; clear hrf; rintro e w2 ⟨rfl, hb2⟩; clear x0 x1 x2 x3 x4 x5 x6 x7; obtain ⟨x0, x1, x2, x3, x4, x5, x6, x7⟩ := HX.out.below hb2 hlw; simp only at x0 x1 x2 x3 x4 x5 x6 x7) | (go_at_call 19; refine (hht _).mono ?_; rintro e w' ⟨rfl, hw⟩; have hw2 := hw.symm; subst hw2))
        go_ret
        exact ⟨rfl, hbel.trans (hb2.mono hbel.size)⟩
      have HCE : Hid (coinR ⟨op, oq, ov, ol, ox, oy, oh, om⟩ = cd) := by
        show _ = _
        rw [HCD.out]; unfold coinR
        rw [if_neg]
        rintro (h | h)
        · rw [← HKR.out] at h; cases h
        · rw [← HKH.out] at h; cases h
      by_cases hc0 : cd = 0
      · have hcr := coin_first (HCE.out.trans hc0)
        simp only at hcr
        by_cases hj0 : ¬ (0 : Int) < (j : Int)
        · have hj00 : j = 0 := by omega
          have hcr2 : ¬ cmpR (op, oq) (prevR cs j) ≤ 0 := by rw [hj00]; exact hcr
          have HTN : Hid (r = csR (prevR cs (j + 1)) (cs.drop (j + 1))) := by
            show _ = _
            rw [HT.out, HNX.out, csR_go (HCE.out.trans hc0) hcr2, prevR_succ HS.out]
          have hd : decide (0 < j) = false := decide_eq_false (by omega)
          clear hj00 hcr2
          clear d0 hcr
          subst hc0
          go_wp2_with (first | (go_at_call 18; refine hrf.mono ?_; clear hrf; rintro e w2 ⟨rfl, hb2⟩; clear x0 x1 x2 x3 x4 x5 x6 x7; obtain ⟨x0, x1, x2, x3, x4, x5, x6, x7⟩ := HX.out.below hb2 hlw; simp only at x0 x1 x2 x3 x4 x5 x6 x7; have hlf := l4Out_any b (off + j * 8 + 2) ol.length kc ka ov ol ox oy w2 hol (HI.out.below (hbel.trans (hb2.mono hbel.size)) (Nat.le_refl _)) (Nat.lt_of_lt_of_le hlw hb2.size) x2 x3 x4 x5; rw [← HCD.out] at hlf) | (go_at_call 19; refine (hht _).mono ?_; rintro e w' ⟨rfl, hw⟩; have hw2 := hw.symm; subst hw2) | (go_at_call 20; refine hlf.mono ?_; clear hlf; rintro e w3 ⟨rfl, hb3⟩))
          go_quiet (fail)
          go_wp2
          go_roundw
          case rel => exact ⟨j + 1, by omega, by go_num, ((hbel.trans (hb2.mono hbel.size)).trans (hb3.mono (by have := hbel.size; have := hb2.size; omega))).trans (Joins.below_draws _ _ _), HTN⟩
          case measure => simp [intOf]; omega
        · have hj0 : (0 : Int) < (j : Int) := by omega
          have hd : decide (0 < j) = true := decide_eq_true (by omega)
          obtain ⟨i, hi⟩ : ∃ i, j = i + 1 := ⟨j - 1, by omega⟩
          have hsub : IntKind.i64.wrap ((j : Int) - 1) = (i : Int) := by rw [show (j : Int) - 1 = (i : Int) by omega]; exact IntWalk.i64_in _ (by omega)
          have HJI : Hid (j = i + 1) := hi
          obtain ⟨o1, ho1⟩ : ∃ o, o = cs.getD i C0 := ⟨_, rfl⟩
          obtain ⟨ja, jc, q0, _, _⟩ := d0 i (by omega)
          rw [← ho1] at q0
          have HS1 : Hid (o1 = cs.getD i C0) := ho1
          obtain ⟨np, nq, nv, nl, nx, ny, nh, nm⟩ := o1
          have HQ : Hid (CoAt wr b (off + i * 8) ⟨np, nq, nv, nl, nx, ny, nh, nm⟩ ja jc) := q0.below hbel l0
          obtain ⟨kb, hkb⟩ : ∃ k, k = decide (0 < cmpR (op, oq) (np, nq)) := ⟨_, rfl⟩
          have hpr : prevR cs j = (np, nq) := by rw [hi]; exact prevR_succ HS1.out
          have HKB : Hid (kb = decide (0 < cmpR (op, oq) (np, nq))) := hkb
          have HPR : Hid (prevR cs j = (np, nq)) := hpr
          have hkm : (i : Int) < (n : Int) := by omega
          have hk0 : (0 : Int) ≤ (i : Int) := by omega
          clear d0 hcr q0 ho1 hkb hpr hi
          subst hc0
          go_wp2_with (first | (go_at_call 18; refine hrf.mono ?_; clear hrf; rintro e w2 ⟨rfl, hb2⟩; clear x0 x1 x2 x3 x4 x5 x6 x7; obtain ⟨x0, x1, x2, x3, x4, x5, x6, x7⟩ := HX.out.below hb2 hlw; simp only at x0 x1 x2 x3 x4 x5 x6 x7; have hlf := l4Out_any b (off + j * 8 + 2) ol.length kc ka ov ol ox oy w2 hol (HI.out.below (hbel.trans (hb2.mono hbel.size)) (Nat.le_refl _)) (Nat.lt_of_lt_of_le hlw hb2.size) x2 x3 x4 x5; rw [← HCD.out] at hlf) | (go_at_call 19; refine (hht _).mono ?_; rintro e w' ⟨rfl, hw⟩; have hw2 := hw.symm; subst hw2) | (go_at_call 20; refine hlf.mono ?_; clear hlf; rintro e w3 ⟨rfl, hb3⟩))
          have hbw : Below w.heap.size w w3 := (hbel.trans (hb2.mono hbel.size)).trans (hb3.mono (by have := hbel.size; have := hb2.size; omega))
          have hbr : Below wr.heap.size wr w3 := hb2.trans (hb3.mono hb2.size)
          clear x0 x1 x2 x3 x4 x5 x6 x7
          obtain ⟨x0, x1, _⟩ := HX.out.below hbr hlw
          obtain ⟨y0, y1, _⟩ := HQ.out.below hbr hlw
          simp only at x0 x1 y0 y1
          have hl3 : b < w3.heap.size := Nat.lt_of_lt_of_le hlw hbr.size
          have hah : Calls Tryd.prog 21 #[.agg #[.int .i64 np, .int .i64 nq], .agg #[.int .i64 op, .int .i64 oq]] w3.drew fun e w' => e = .returned (.bool kb) ∧ Below w3.heap.size w3 w' := by
            rw [HKB.out]; exact (l4Ahead_any np nq op oq w3.drew).mono fun e w' h => ⟨h.1, (Below.refl _ _).drew.trans h.2⟩
          clear hb2 hb3 hbr
          go_region_held3 (fun w' => w'.cell? ⟨b, off + j * 8, none⟩ = some (.int .i64 op) ∧ w'.cell? ⟨b, off + j * 8 + 1, none⟩ = some (.int .i64 oq) ∧ w'.cell? ⟨b, off + i * 8, none⟩ = some (.int .i64 np) ∧ w'.cell? ⟨b, off + i * 8 + 1, none⟩ = some (.int .i64 nq)) (go_keep)
            (first | (go_at_call 21; refine hah.mono ?_; rintro e w4 ⟨rfl, hb4⟩; have z0 := (hb4.cell (p := ⟨b, off + j * 8, none⟩) hl3).trans x0; have z1 := (hb4.cell (p := ⟨b, off + j * 8 + 1, none⟩) hl3).trans x1; have z2 := (hb4.cell (p := ⟨b, off + i * 8, none⟩) hl3).trans y0; have z3 := (hb4.cell (p := ⟨b, off + i * 8 + 1, none⟩) hl3).trans y1))
          cases kb
          · obtain rfl : r = 1 := by
              have hle : cmpR (op, oq) (np, nq) ≤ 0 := by have := of_decide_eq_false HKB.out.symm; omega
              rw [HT.out, HNX.out, HPR.out, csR_form HCE.out hle]
            go_wp2
            go_ret
            exact ⟨rfl, hbw.trans (hb4.mono hbw.size)⟩
          · have HTN : Hid (r = csR (prevR cs (j + 1)) (cs.drop (j + 1))) := by
              have hle : ¬ cmpR (op, oq) (np, nq) ≤ 0 := by have := of_decide_eq_true HKB.out.symm; omega
              show _ = _
              rw [HT.out, HNX.out, HPR.out, csR_go HCE.out hle, prevR_succ HS.out]
            go_wp2
            go_roundw
            case rel => exact ⟨j + 1, by omega, by go_num, hbw.trans (hb4.mono hbw.size), HTN⟩
            case measure => simp [intOf]; omega
      · obtain rfl : r = cd := by rw [HT.out, HNX.out, csR_bad HCE.out hc0]
        clear d0
        go_wp2_with (first | (go_at_call 18; refine hrf.mono ?_; clear hrf; rintro e w2 ⟨rfl, hb2⟩; clear x0 x1 x2 x3 x4 x5 x6 x7; obtain ⟨x0, x1, x2, x3, x4, x5, x6, x7⟩ := HX.out.below hb2 hlw; simp only at x0 x1 x2 x3 x4 x5 x6 x7; have hlf := l4Out_any b (off + j * 8 + 2) ol.length kc ka ov ol ox oy w2 hol (HI.out.below (hbel.trans (hb2.mono hbel.size)) (Nat.le_refl _)) (Nat.lt_of_lt_of_le hlw hb2.size) x2 x3 x4 x5; rw [← HCD.out] at hlf) | (go_at_call 19; refine (hht _).mono ?_; rintro e w' ⟨rfl, hw⟩; have hw2 := hw.symm; subst hw2) | (go_at_call 20; refine hlf.mono ?_; clear hlf; rintro e w3 ⟨rfl, hb3⟩))
        go_ret
        exact ⟨rfl, (hbel.trans (hb2.mono hbel.size)).trans (hb3.mono (by have := hbel.size; have := hb2.size; omega))⟩
    · obtain rfl : r = 0 := by rw [HT.out, List.drop_eq_nil_of_le (by rw [HN.out]; omega)]; rfl
      go_wp2
      go_ret
      exact ⟨rfl, hbel⟩

end Go.Proofs.YtobmongmmnldpaaDoor
