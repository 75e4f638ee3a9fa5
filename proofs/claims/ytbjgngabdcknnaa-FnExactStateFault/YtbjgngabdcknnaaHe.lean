/- The fault of a state: the specification's and the program's. -/
import Derived.Test.YtbjgngabdcknnaaHb
import Derived.Test.YtbjgngabdcknnaaCnS
import Derived.Test.YtbjgngabdcknnaaEc
import Derived.Test.YtbjgngabdcknnaaEe
import Derived.Test.YtbjgngabdcknnaaCw
namespace Go.Proofs.Ytbjgngabdcknnaa
open Go.RowKit Go.Maps Go.WideMaps

theorem Pu.down {w : World} {lo lo' B : Nat} {ps : List (Co × Value)} (h : Pu w lo B ps) (hl : lo' ≤ lo) : Pu w lo' B ps := ⟨h.map, fun x hx => Joins.ownsRow_le (h.rows x hx) hl, Nat.le_trans hl h.base, h.apart, h.refs, h.wfs⟩

def tipR (k f : Int) : Int := if inB k 0 60 = false ∨ inB f 0 40 = false then 3 else if (k == 0) ≠ (f == 0) then 1 else 0
def stR (k f : Int) (cs : List Co) (ms : List Mb) : Int := if tipR k f ≠ 0 then tipR k f else if coinsR cs ≠ 0 then coinsR cs else memsR ms
theorem stR_tip {k f t : Int} {cs : List Co} {ms : List Mb} (h : tipR k f = t) (h0 : t ≠ 0) : stR k f cs ms = t := by unfold stR; rw [h, if_pos h0]
theorem stR_coins {k f t : Int} {cs : List Co} {ms : List Mb} (h : tipR k f = 0) (h1 : coinsR cs = t) (h0 : t ≠ 0) : stR k f cs ms = t := by unfold stR; rw [h, if_neg (by simp), h1, if_pos h0]
theorem stR_mems {k f : Int} {cs : List Co} {ms : List Mb} (h : tipR k f = 0) (h1 : coinsR cs = 0) : stR k f cs ms = memsR ms := by unfold stR; rw [h, if_neg (by simp), h1, if_neg (by simp)]
theorem bool_ne {a b : Bool} (h : ¬ a = b) : b = !a := by cases a <;> cases b <;> first | rfl | exact absurd rfl h
theorem tipR_range {k f : Int} (h : inB k 0 60 = false ∨ inB f 0 40 = false) : tipR k f = 3 := by unfold tipR; rw [if_pos h]
theorem tipR_form {k f : Int} (h0 : inB k 0 60 = true) (h1 : inB f 0 40 = true) (hb : (k == 0) ≠ (f == 0)) : tipR k f = 1 := by unfold tipR; rw [if_neg (by simp [h0, h1]), if_pos hb]
theorem tipR_ok {k f : Int} (h0 : inB k 0 60 = true) (h1 : inB f 0 40 = true) (hb : (k == 0) = (f == 0)) : tipR k f = 0 := by unfold tipR; rw [if_neg (by simp [h0, h1]), if_neg (by simp [hb])]

set_option maxRecDepth 20000 in
set_option maxHeartbeats 4000000 in
theorem l8Fault_any (P : Nat) (n c m d : Nat) (ia oa : Option Addr) (k f : Int) (cs : List Co) (ms : List Mb) (w : World) (hn : n ≤ 1048576) (hm : m ≤ 1048576) (hk : ∀ j, j < n → (cs.getD j C0).l.length ≤ 1048576) (h : StAt w ia n oa m cs ms) (hP : w.heap[P]? = some (.cells #[.int .i64 k, .int .i64 f, .slice ia n c, .slice oa m d] 61 (0, 0))) :
    Calls Try.prog 57 #[.pointer (some ⟨P, 0, none⟩)] w fun e w' => e = .returned (.int .i64 (stR k f cs ms)) ∧ Below w.heap.size w w' := by
  obtain ⟨p0, p1, p2, p3, _⟩ := cells4 hP
  have HP : Hid (w.heap[P]? = some (.cells #[.int .i64 k, .int .i64 f, .slice ia n c, .slice oa m d] 61 (0, 0))) := hP
  have HH : Hid (StAt w ia n oa m cs ms) := h
  have HK : Hid (∀ j, j < n → (cs.getD j C0).l.length ≤ 1048576) := hk
  obtain ⟨kb, hkb⟩ : ∃ b, b = inB k 0 60 := ⟨_, rfl⟩
  obtain ⟨fb, hfb⟩ : ∃ b, b = inB f 0 40 := ⟨_, rfl⟩
  have hin : ∀ u, Calls Try.prog 48 #[.int .i64 k, .int .i64 0, .int .i64 60] u fun e w' => e = .returned (.bool kb) ∧ w' = u := fun u => by rw [hkb]; exact l1In_any _ _ _ u
  have hif : ∀ u, Calls Try.prog 48 #[.int .i64 f, .int .i64 0, .int .i64 40] u fun e w' => e = .returned (.bool fb) ∧ w' = u := fun u => by rw [hfb]; exact l1In_any _ _ _ u
  clear hP h hk
  cases kb
  · rw [stR_tip (tipR_range (.inl hkb.symm)) (by decide)]
    clear hkb hfb
    go_enter Try.func57, Try.ntmps57
    go_wp2_with (go_at_call 48; (with_reducible refine (hin _).mono ?_); rintro e w' ⟨rfl, hw⟩; have hw2 := hw.symm; subst hw2)
    go_ret
    exact ⟨rfl, Below.refl _ _⟩
  cases fb
  · rw [stR_tip (tipR_range (.inr hfb.symm)) (by decide)]
    clear hkb hfb
    go_enter Try.func57, Try.ntmps57
    go_wp2_with (go_at_call 48; first | ((with_reducible refine (hin _).mono ?_); rintro e w' ⟨rfl, hw⟩; have hw2 := hw.symm; subst hw2) | ((with_reducible refine (hif _).mono ?_); rintro e w' ⟨rfl, hw⟩; have hw2 := hw.symm; subst hw2))
    go_ret
    exact ⟨rfl, Below.refl _ _⟩
  by_cases hz : (k == 0) = (f == 0)
  · have ht := tipR_ok hkb.symm hfb.symm hz
    obtain ⟨cd, hcd⟩ : ∃ r, r = coinsR cs := ⟨_, rfl⟩
    have HCD : Hid (coinsR cs = cd) := hcd.symm
    have HTP : Hid (tipR k f = 0) := ht
    clear hkb hfb ht hcd
    obtain ⟨kz, hkz⟩ : ∃ b, b = (k == 0) := ⟨_, rfl⟩
    have hkz2 : (k == 0) = kz := hkz.symm
    have hfz2 : (f == 0) = kz := by rw [← hz]; exact hkz2
    clear hkz hz
    by_cases h0 : cd = 0
    · subst h0
      rw [stR_mems HTP.out HCD.out]
      obtain ⟨md, hmd⟩ : ∃ r, r = memsR ms := ⟨_, rfl⟩
      have HMD : Hid (memsR ms = md) := hmd.symm
      rw [← hmd]
      clear hmd
      cases kz
      all_goals
        go_enter Try.func57, Try.ntmps57
        go_wp2_with (go_at_call 48; first | ((with_reducible refine (hin _).mono ?_); rintro e w' ⟨rfl, hw⟩; have hw2 := hw.symm; subst hw2) | ((with_reducible refine (hif _).mono ?_); rintro e w' ⟨rfl, hw⟩; have hw2 := hw.symm; subst hw2))
        go_quiet (fail)
        obtain ⟨u, hu⟩ : ∃ U, U = w.drewN nq := ⟨_, rfl⟩
        rw [← hu]
        have hbu : Below w.heap.size w u := by rw [hu]; exact Joins.below_draws _ _ _
        clear hu
        obtain ⟨x0, x1, x2, x3, _⟩ := cells4 ((hbu.block P (lt_of_block HP.out)).trans HP.out)
        have hC := l4Fault_any n c ia cs u hn HK.out (HH.out.c.below hbu (Nat.le_refl _))
        rw [HCD.out] at hC
        go_wp2_with (first
          | (go_at_call 35; (with_reducible refine hC.mono ?_); clear hC; rintro e w2 ⟨rfl, hb2⟩; have HB2 : Hid (Below w.heap.size w w2) := hbu.trans (hb2.mono hbu.size); clear hb2 x0 x1 x2 x3; obtain ⟨x0, x1, x2, x3, _⟩ := cells4 ((HB2.out.block P (lt_of_block HP.out)).trans HP.out); have hM := l6Fault_any m d oa ms w2 hm (HH.out.m.below HB2.out (Nat.le_refl _)); rw [HMD.out] at hM)
          | (go_at_call 78; (with_reducible refine hM.mono ?_); clear hM; rintro e w3 ⟨rfl, hb3⟩))
        go_ret
        exact ⟨rfl, HB2.out.trans (hb3.mono HB2.out.size)⟩
    · rw [stR_coins HTP.out HCD.out h0]
      cases kz
      all_goals
        go_enter Try.func57, Try.ntmps57
        go_wp2_with (go_at_call 48; first | ((with_reducible refine (hin _).mono ?_); rintro e w' ⟨rfl, hw⟩; have hw2 := hw.symm; subst hw2) | ((with_reducible refine (hif _).mono ?_); rintro e w' ⟨rfl, hw⟩; have hw2 := hw.symm; subst hw2))
        go_quiet (fail)
        obtain ⟨u, hu⟩ : ∃ U, U = w.drewN nq := ⟨_, rfl⟩
        rw [← hu]
        have hbu : Below w.heap.size w u := by rw [hu]; exact Joins.below_draws _ _ _
        clear hu
        obtain ⟨x0, x1, x2, x3, _⟩ := cells4 ((hbu.block P (lt_of_block HP.out)).trans HP.out)
        have hC := l4Fault_any n c ia cs u hn HK.out (HH.out.c.below hbu (Nat.le_refl _))
        rw [HCD.out] at hC
        go_wp2_with (first
          | (go_at_call 35; (with_reducible refine hC.mono ?_); clear hC; rintro e w2 ⟨rfl, hb2⟩))
        go_ret
        exact ⟨rfl, hbu.trans (hb2.mono hbu.size)⟩
  · rw [stR_tip (tipR_form hkb.symm hfb.symm hz) (by decide)]
    clear hkb hfb
    obtain ⟨kz, hkz⟩ : ∃ b, b = (k == 0) := ⟨_, rfl⟩
    have hkz2 : (k == 0) = kz := hkz.symm
    have hfz2 : (f == 0) = !kz := by rw [← hkz2]; exact bool_ne hz
    clear hkz hz
    cases kz
    all_goals
      simp only [Bool.not_false, Bool.not_true] at hfz2
      go_enter Try.func57, Try.ntmps57
      go_wp2_with (go_at_call 48; first | ((with_reducible refine (hin _).mono ?_); rintro e w' ⟨rfl, hw⟩; have hw2 := hw.symm; subst hw2) | ((with_reducible refine (hif _).mono ?_); rintro e w' ⟨rfl, hw⟩; have hw2 := hw.symm; subst hw2))
      go_quiet (fail)
      go_wp2
      go_ret
      exact ⟨rfl, Joins.below_draws _ _ _⟩

theorem sStateFault_any (n c m d : Nat) (ia oa : Option Addr) (k f : Int) (cs : List Co) (ms : List Mb) (w : World) (hn : n ≤ 1048576) (hm : m ≤ 1048576) (hk : ∀ j, j < n → (cs.getD j C0).l.length ≤ 1048576) (h : StAt w ia n oa m cs ms) :
    Calls Try.prog 30 #[.agg #[.int .i64 k, .int .i64 f, .slice ia n c, .slice oa m d]] w fun e w' => e = .returned (.int .i64 (stR k f cs ms)) ∧ Below w.heap.size w w' := by
  have hbx : Below w.heap.size w (w.alloc (.cells #[.int .i64 k, .int .i64 f, .slice ia n c, .slice oa m d] 61)) := below_box _
  have hS := l8Fault_any w.heap.size n c m d ia oa k f cs ms (w.alloc (.cells #[.int .i64 k, .int .i64 f, .slice ia n c, .slice oa m d] 61)) hn hm hk (h.below hbx (Nat.le_refl _)) (heap_alloc_new _ _)
  have HBX : Hid (Below w.heap.size w (w.alloc (.cells #[.int .i64 k, .int .i64 f, .slice ia n c, .slice oa m d] 61))) := hbx
  clear hbx h hk hn hm
  go_enter Try.func30, Try.ntmps30
  go_wp2_with (first | (go_at_call 57; (with_reducible refine hS.mono ?_); clear hS; rintro e w2 ⟨rfl, hb2⟩))
  go_ret
  exact ⟨rfl, HBX.out.trans (hb2.mono (by simp))⟩

set_option maxRecDepth 20000 in
set_option maxHeartbeats 2000000 in
theorem tipFault_any (n c m d : Nat) (ia oa : Option Addr) (k f : Int) (w : World) :
    Calls Try.prog 80 #[.agg #[.int .i64 k, .int .i64 f, .slice ia n c, .slice oa m d]] w fun e w' => e = .returned (.int .i64 (tipR k f)) ∧ Below w.heap.size w w' := by
  obtain ⟨kb, hkb⟩ : ∃ b, b = inB k 0 60 := ⟨_, rfl⟩
  obtain ⟨fb, hfb⟩ : ∃ b, b = inB f 0 40 := ⟨_, rfl⟩
  have hin : ∀ u, Calls Try.prog 96 #[.int .i64 k, .int .i64 0, .int .i64 60] u fun e w' => e = .returned (.bool kb) ∧ w' = u := fun u => by rw [hkb]; exact isWithin_any _ _ _ u
  have hif : ∀ u, Calls Try.prog 96 #[.int .i64 f, .int .i64 0, .int .i64 40] u fun e w' => e = .returned (.bool fb) ∧ w' = u := fun u => by rw [hfb]; exact isWithin_any _ _ _ u
  cases kb
  · rw [tipR_range (.inl hkb.symm)]
    clear hkb hfb
    go_enter Try.func80, Try.ntmps80
    go_wp2_with (go_at_call 96; (with_reducible refine (hin _).mono ?_); rintro e w' ⟨rfl, hw⟩; have hw2 := hw.symm; subst hw2)
    go_ret
    exact ⟨rfl, below_box _⟩
  cases fb
  · rw [tipR_range (.inr hfb.symm)]
    clear hkb hfb
    go_enter Try.func80, Try.ntmps80
    go_wp2_with (go_at_call 96; first | ((with_reducible refine (hin _).mono ?_); rintro e w' ⟨rfl, hw⟩; have hw2 := hw.symm; subst hw2) | ((with_reducible refine (hif _).mono ?_); rintro e w' ⟨rfl, hw⟩; have hw2 := hw.symm; subst hw2))
    go_ret
    exact ⟨rfl, below_box _⟩
  by_cases hz : (k == 0) = (f == 0)
  · rw [tipR_ok hkb.symm hfb.symm hz]
    clear hkb hfb
    obtain ⟨kz, hkz⟩ : ∃ b, b = (k == 0) := ⟨_, rfl⟩
    have hkz2 : (k == 0) = kz := hkz.symm
    have hfz2 : (f == 0) = kz := by rw [← hz]; exact hkz2
    clear hkz hz
    cases kz
    all_goals
      go_enter Try.func80, Try.ntmps80
      go_wp2_with (go_at_call 96; first | ((with_reducible refine (hin _).mono ?_); rintro e w' ⟨rfl, hw⟩; have hw2 := hw.symm; subst hw2) | ((with_reducible refine (hif _).mono ?_); rintro e w' ⟨rfl, hw⟩; have hw2 := hw.symm; subst hw2))
      go_ret
      exact ⟨rfl, below_box _⟩
  · rw [tipR_form hkb.symm hfb.symm hz]
    clear hkb hfb
    obtain ⟨kz, hkz⟩ : ∃ b, b = (k == 0) := ⟨_, rfl⟩
    have hkz2 : (k == 0) = kz := hkz.symm
    have hfz2 : (f == 0) = !kz := by rw [← hkz2]; exact bool_ne hz
    clear hkz hz
    cases kz
    all_goals
      simp only [Bool.not_false, Bool.not_true] at hfz2
      go_enter Try.func80, Try.ntmps80
      go_wp2_with (go_at_call 96; first | ((with_reducible refine (hin _).mono ?_); rintro e w' ⟨rfl, hw⟩; have hw2 := hw.symm; subst hw2) | ((with_reducible refine (hif _).mono ?_); rintro e w' ⟨rfl, hw⟩; have hw2 := hw.symm; subst hw2))
      go_ret
      exact ⟨rfl, below_box _⟩

/-- What filling the ground comes to. -/
def FillG (w w' : World) (e : Ending) (k f : Int) (cs : List Co) (ms : List Mb) : Prop :=
  Below w.heap.size w w' ∧ ((stR k f cs ms ≠ 0 ∧ e = .returned (.tuple #[.pointer none, .int .i64 (stR k f cs ms)])) ∨ (stR k f cs ms = 0 ∧ ∃ G B ps va vc, e = .returned (.tuple #[.pointer (some ⟨G, 0, none⟩), .int .i64 0]) ∧ w'.heap[G]? = some (.cells #[.int .i64 k, .int .i64 f, .map (some B), .slice va ms.length vc] 138 (0, 0)) ∧ w.heap.size ≤ G ∧ Pu w' w.heap.size B ps ∧ ps.map (·.1) = cs ∧ w'.ownsRow w.heap.size 149 3 (.slice va ms.length vc) ms.length (mcells ms)))

set_option maxRecDepth 20000 in
set_option maxHeartbeats 4000000 in
theorem fillGround_any (n c m d : Nat) (ia oa : Option Addr) (k f : Int) (cs : List Co) (ms : List Mb) (w : World) (hn : n ≤ 1048576) (hm : m ≤ 1048576) (hk : ∀ j, j < n → (cs.getD j C0).l.length ≤ 1048576) (h : StAt w ia n oa m cs ms) :
    Calls Try.prog 59 #[.agg #[.int .i64 k, .int .i64 f, .slice ia n c, .slice oa m d]] w fun e w' => FillG w w' e k f cs ms := by
  have hbx : Below w.heap.size w (w.alloc (.cells #[.int .i64 k, .int .i64 f, .slice ia n c, .slice oa m d] 61)) := below_box _
  have T0 : Hid ((w.alloc (.cells #[.int .i64 k, .int .i64 f, .slice ia n c, .slice oa m d] 61)).heap[w.heap.size]? = some (.cells #[.int .i64 k, .int .i64 f, .slice ia n c, .slice oa m d] 61 (0, 0))) := heap_alloc_new _ _
  have hT := tipFault_any n c m d ia oa k f (w.alloc (.cells #[.int .i64 k, .int .i64 f, .slice ia n c, .slice oa m d] 61))
  have HBX : Hid (Below w.heap.size w (w.alloc (.cells #[.int .i64 k, .int .i64 f, .slice ia n c, .slice oa m d] 61))) := hbx
  have HH : Hid (StAt w ia n oa m cs ms) := h
  have HK : Hid (∀ j, j < n → (cs.getD j C0).l.length ≤ 1048576) := hk
  have HML : Hid (ms.length = m) := h.m.1
  obtain ⟨td, htd⟩ : ∃ r, r = tipR k f := ⟨_, rfl⟩
  have HTD : Hid (tipR k f = td) := htd.symm
  rw [← htd] at hT
  clear hbx h hk htd
  by_cases ht0 : td = 0
  rotate_left
  · have HS : Hid (stR k f cs ms = td) := stR_tip HTD.out ht0
    go_enter Try.func59, Try.ntmps59
    go_wp2_with (first
      | (go_at_call 80; (with_reducible refine hT.mono ?_); clear hT; rintro e w2 ⟨rfl, hb2⟩))
    refine bodyPost_ret (v := .tuple #[.pointer none, .int .i64 td]) (by simp [results, Try.results59, go_sem]) rfl ⟨HBX.out.trans (hb2.mono (by simp)), .inl ⟨by rw [HS.out]; exact ht0, by rw [HS.out]⟩⟩
  subst ht0
  obtain ⟨cd, hcd⟩ : ∃ r, r = coinsR cs := ⟨_, rfl⟩
  have HCD : Hid (coinsR cs = cd) := hcd.symm
  have HFP : Hid (∀ v, Below w.heap.size w v → Calls Try.prog 39 #[.slice ia n c] v fun e w' => FillR v w' e cs) := fun v hv => fillPurse_any n c ia cs v hn HK.out (HH.out.c.below hv (Nat.le_refl _))
  by_cases hc0 : cd = 0
  rotate_left
  · have HS : Hid (stR k f cs ms = cd) := stR_coins HTD.out HCD.out hc0
    have HC0 : Hid (¬ cd = 0) := hc0
    clear hcd
    go_enter Try.func59, Try.ntmps59
    go_wp2_with (first
      | (go_at_call 80; (with_reducible refine hT.mono ?_); clear hT; rintro e w2 ⟨rfl, hb2⟩; have hbw : Below w.heap.size w w2 := HBX.out.trans (hb2.mono (by simp)); obtain ⟨⟨p0, p1, p2, p3, _⟩, _⟩ := res4 T0.out hb2 (by simp); have hP : Calls Try.prog 39 #[.slice ia n c] w2 fun e w' => e = .returned (.tuple #[.map none, .int .i64 cd]) ∧ Below w2.heap.size w2 w' := (HFP.out w2 hbw).mono (fun e w' hf => ⟨by rcases hf.2 with ⟨_, e1⟩ | ⟨e0, _⟩; (rw [e1, HCD.out]); exact absurd (HCD.out.symm.trans e0) HC0.out, hf.1⟩); clear hb2)
      | (go_at_call 39; (with_reducible refine hP.mono ?_); clear hP; rintro e w3 ⟨rfl, hb3⟩))
    refine bodyPost_ret (v := .tuple #[.pointer none, .int .i64 cd]) (by simp [results, Try.results59, go_sem]) rfl ⟨hbw.trans (hb3.mono hbw.size), .inl ⟨by rw [HS.out]; exact hc0, by rw [HS.out]⟩⟩
  subst hc0
  obtain ⟨md, hmd⟩ : ∃ r, r = memsR ms := ⟨_, rfl⟩
  have HMD : Hid (memsR ms = md) := hmd.symm
  have HS : Hid (stR k f cs ms = md) := by show _ = _; rw [stR_mems HTD.out HCD.out, HMD.out]
  clear hcd hmd
  have HFQ : Hid (∀ v, Below w.heap.size w v → Calls Try.prog 39 #[.slice ia n c] v fun e w' => ∃ B, e = .returned (.tuple #[.map (some B), .int .i64 0]) ∧ Hid (∃ ps, Pu w' v.heap.size B ps ∧ ps.map (·.1) = cs) ∧ Below v.heap.size v w') := fun v hv => (HFP.out v hv).mono fun e w' hf => by
    rcases hf.2 with ⟨e0, _⟩ | ⟨_, B, ps, e1, e2, e3⟩
    · exact absurd HCD.out e0
    · exact ⟨B, e1, ⟨ps, e2, e3⟩, hf.1⟩
  clear HFP
  by_cases hm0 : md = 0
  · subst hm0
    go_enter Try.func59, Try.ntmps59
    go_wp2_with (first
      | (go_at_call 80; (with_reducible refine hT.mono ?_); clear hT; rintro e w2 ⟨rfl, hb2⟩; have HBW : Hid (Below w.heap.size w w2) := HBX.out.trans (hb2.mono (by simp)); have HT2 := keepb T0.out hb2; obtain ⟨p0, p1, p2, p3, _⟩ := cells4 HT2.out; have hP := HFQ.out w2 HBW.out; clear hb2)
      | (go_at_call 39; (with_reducible refine hP.mono ?_); clear hP; rintro e w3 ⟨B, rfl, HPU, hb3⟩; have HB3 : Hid (Below w.heap.size w w3) := HBW.out.trans (hb3.mono HBW.out.size); have HT3 := keepb HT2.out hb3; clear p0 p1 p2 p3; obtain ⟨p0, p1, p2, p3, _⟩ := cells4 HT3.out; have hM := fillBench_ok m d oa ms w3 hm (HH.out.m.below HB3.out (Nat.le_refl _)) HMD.out; clear hb3)
      | (go_at_call 81; (with_reducible refine hM.mono ?_); clear hM; rintro e w4 ⟨va, vc, rfl, hrow, hb4⟩; have HB4 : Hid (Below w.heap.size w w4) := HB3.out.trans (hb4.mono HB3.out.size); have HT4 := keepb HT3.out hb4; have HROW : Hid (w4.ownsRow w3.heap.size 149 3 (.slice va m vc) m (mcells ms)) := hrow; have HLE : Hid (w.heap.size ≤ w2.heap.size ∧ w.heap.size ≤ w3.heap.size ∧ w.heap.size ≤ w4.heap.size) := ⟨HBW.out.size, HB3.out.size, HB4.out.size⟩; have HPW : Hid (∃ ps, Pu w4 w2.heap.size B ps ∧ ps.map (·.1) = cs) := (by obtain ⟨ps, e1, e2⟩ := HPU.out; exact ⟨ps, e1.below hb4, e2⟩); clear p0 p1 p2 p3 hrow hb4; obtain ⟨p0, p1, p2, p3, _⟩ := cells4 HT4.out))
    have hbz : Below w4.heap.size w4 (w4.alloc (.cells #[.int .i64 k, .int .i64 f, .map (some B), .slice va m vc] 138)) := below_box _
    obtain ⟨ps, hp1, hp2⟩ := HPW.out
    refine bodyPost_ret (v := .tuple #[.pointer (some ⟨w4.heap.size, 0, none⟩), .int .i64 0]) (by simp [results, Try.results59, go_sem]) rfl ⟨HB4.out.trans (hbz.mono HB4.out.size), .inr ⟨HS.out, w4.heap.size, B, ps, va, vc, rfl, by rw [HML.out]; exact heap_alloc_new _ _, HLE.out.2.2, (hp1.below hbz).down HLE.out.1, hp2, ?_⟩⟩
    rw [HML.out]
    exact Joins.ownsRow_le (HROW.out.kept (grown_of_below hbz) (by cases Value.ownBlock (.slice va m vc) <;> simp)) HLE.out.2.1
  · have hM : ∀ v, Below w.heap.size w v → Calls Try.prog 81 #[.slice oa m d] v fun e w' => e = .returned (.tuple #[.slice none 0 0, .int .i64 md]) ∧ Below v.heap.size v w' := fun v hv => fillBench_bad m d oa ms md v hm (HH.out.m.below hv (Nat.le_refl _)) HMD.out hm0
    have HM : Hid (∀ v, Below w.heap.size w v → Calls Try.prog 81 #[.slice oa m d] v fun e w' => e = .returned (.tuple #[.slice none 0 0, .int .i64 md]) ∧ Below v.heap.size v w') := hM
    clear hM
    go_enter Try.func59, Try.ntmps59
    go_wp2_with (first
      | (go_at_call 80; (with_reducible refine hT.mono ?_); clear hT; rintro e w2 ⟨rfl, hb2⟩; have HBW : Hid (Below w.heap.size w w2) := HBX.out.trans (hb2.mono (by simp)); have HT2 := keepb T0.out hb2; obtain ⟨p0, p1, p2, p3, _⟩ := cells4 HT2.out; have hP := HFQ.out w2 HBW.out; clear hb2)
      | (go_at_call 39; (with_reducible refine hP.mono ?_); clear hP; rintro e w3 ⟨B, rfl, HPU, hb3⟩; have HB3 : Hid (Below w.heap.size w w3) := HBW.out.trans (hb3.mono HBW.out.size); have HT3 := keepb HT2.out hb3; clear p0 p1 p2 p3; obtain ⟨p0, p1, p2, p3, _⟩ := cells4 HT3.out; have hM := HM.out w3 HB3.out; clear hb3)
      | (go_at_call 81; (with_reducible refine hM.mono ?_); clear hM; rintro e w4 ⟨rfl, hb4⟩))
    refine bodyPost_ret (v := .tuple #[.pointer none, .int .i64 md]) (by simp [results, Try.results59, go_sem]) rfl ⟨HB3.out.trans (hb4.mono HB3.out.size), .inl ⟨by rw [HS.out]; exact hm0, by rw [HS.out]⟩⟩

theorem iStateFault_any (n c m d : Nat) (ia oa : Option Addr) (k f : Int) (cs : List Co) (ms : List Mb) (w : World) (hn : n ≤ 1048576) (hm : m ≤ 1048576) (hk : ∀ j, j < n → (cs.getD j C0).l.length ≤ 1048576) (h : StAt w ia n oa m cs ms) :
    Calls Try.prog 32 #[.agg #[.int .i64 k, .int .i64 f, .slice ia n c, .slice oa m d]] w fun e w' => e = .returned (.int .i64 (stR k f cs ms)) ∧ Below w.heap.size w w' := by
  have hbx : Below w.heap.size w (w.alloc (.cells #[.int .i64 k, .int .i64 f, .slice ia n c, .slice oa m d] 61)) := below_box _
  have hS : Calls Try.prog 59 #[.agg #[.int .i64 k, .int .i64 f, .slice ia n c, .slice oa m d]] (w.alloc (.cells #[.int .i64 k, .int .i64 f, .slice ia n c, .slice oa m d] 61)) fun e w' => ∃ q, e = .returned (.tuple #[.pointer q, .int .i64 (stR k f cs ms)]) ∧ Below (w.alloc (.cells #[.int .i64 k, .int .i64 f, .slice ia n c, .slice oa m d] 61)).heap.size (w.alloc (.cells #[.int .i64 k, .int .i64 f, .slice ia n c, .slice oa m d] 61)) w' := (fillGround_any n c m d ia oa k f cs ms (w.alloc (.cells #[.int .i64 k, .int .i64 f, .slice ia n c, .slice oa m d] 61)) hn hm hk (h.below hbx (Nat.le_refl _))).mono fun e w' hf => by
    rcases hf.2 with ⟨_, e1⟩ | ⟨e0, G, B, ps, va, vc, e1, _⟩
    · exact ⟨none, e1, hf.1⟩
    · exact ⟨_, by rw [e1, e0], hf.1⟩
  have HBX : Hid (Below w.heap.size w (w.alloc (.cells #[.int .i64 k, .int .i64 f, .slice ia n c, .slice oa m d] 61))) := hbx
  obtain ⟨sd, hsd⟩ : ∃ r, r = stR k f cs ms := ⟨_, rfl⟩
  rw [← hsd] at hS ⊢
  clear hbx h hk hn hm hsd
  go_enter Try.func32, Try.ntmps32
  go_wp2_with (first | (go_at_call 59; (with_reducible refine hS.mono ?_); clear hS; rintro e w2 ⟨q, rfl, hb2⟩))
  go_ret
  exact ⟨rfl, HBX.out.trans (hb2.mono (by simp))⟩

end Go.Proofs.Ytbjgngabdcknnaa
