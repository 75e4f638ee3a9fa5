/- BestOf: the specification's. -/
import Derived.Test.YtinlhghlmfcbfaaVh
import Derived.BigQuiet
import Derived.Lib.QuietBelow
namespace Go.Proofs.Ytinlhghlmfcbfaa
open Go.RowKit Go.Maps Go.WideMaps Go.Sort

def fitX (ms : List Mb) (x h : Int) (ls : List Int) : Bool := ls.all fun l => relB ms x l && !decide (h < htR ms l)
theorem fitX_false {ms : List Mb} {ls : List Int} {x h : Int} {t : Nat} (ht : t < ls.length) (hh : (relB ms x (ls.getD t 0) && !decide (h < htR ms (ls.getD t 0))) = false) : fitX ms x h ls = false := by
  unfold fitX
  rw [List.all_eq_false]
  refine ⟨ls[t], List.getElem_mem ht, ?_⟩
  have e : ls.getD t 0 = ls[t] := by simp [List.getD, ht]
  rw [e] at hh
  rw [hh]
  simp
theorem fitX_true {ms : List Mb} {ls : List Int} {x h : Int} (hh : ∀ t, t < ls.length → (relB ms x (ls.getD t 0) && !decide (h < htR ms (ls.getD t 0))) = true) : fitX ms x h ls = true := by
  unfold fitX
  rw [List.all_eq_true]
  intro l hl
  obtain ⟨t, ht, e⟩ := List.getElem_of_mem hl
  have := hh t ht
  have e2 : ls.getD t 0 = l := by simp [List.getD, ht, e]
  rw [e2] at this
  exact this
theorem fitX_fit {ms : List Mb} (h : treeR ms = 0) {ls : List Int} (hf : foundB ms ls = true) {j : Nat} (hj : j < ms.length) : fitX ms (ms.getD j Z3).1 (ms.getD j Z3).2.2 ls = fitB ms (ms.getD j Z3).1 ls := by
  unfold fitX fitB
  have hx := nAt_self h hj
  have hht : htR ms (ms.getD j Z3).1 = (ms.getD j Z3).2.2 := by unfold htR; rw [hx]; rfl
  unfold foundB at hf
  rw [List.all_eq_true] at hf
  induction ls with
  | nil => rfl
  | cons l t ih =>
    rw [List.all_cons, List.all_cons, ih (fun x hx => hf x (List.mem_cons_of_mem _ hx))]
    have hl := hf l (by simp)
    have := fit_above h (x := (ms.getD j Z3).1) (l := l) (by omega) (by simpa using hl)
    rw [hht] at this
    rw [this]

set_option maxRecDepth 20000 in
set_option maxHeartbeats 4000000 in
theorem l9Fits_any (n c m d : Nat) (a a2 : Option Addr) (ms : List Mb) (ls : List Int) (x p h : Int) (w : World) (hn : n ≤ 1048576) (hm : m ≤ 1048576) (hz : treeR ms = 0) (hf : foundB ms ls = true) (hC : MAt w a n ms) (hI : IAt w a2 m ls) :
    Calls Try.prog 44 #[.slice a n c, .agg #[.int .i64 x, .int .i64 p, .int .i64 h], .slice a2 m d] w fun e w' => e = .returned (.bool (fitX ms x h ls)) ∧ Below w.heap.size w w' := by
  obtain ⟨V, hV⟩ : ∃ V, V = w.alloc (.cells #[.int .i64 x, .int .i64 p, .int .i64 h] 40) := ⟨_, rfl⟩
  have HV : Hid (V = w.alloc (.cells #[.int .i64 x, .int .i64 p, .int .i64 h] 40)) := hV
  have HBX : Hid (Below w.heap.size w V) := by rw [hV]; exact below_box _
  have HX : Hid (V.heap[w.heap.size]? = some (.cells #[.int .i64 x, .int .i64 p, .int .i64 h] 40 (0, 0))) := by rw [hV]; exact heap_alloc_new _ _
  have HC : Hid (MAt V a n ms) := hC.below HBX.out (Nat.le_refl _)
  have HI : Hid (IAt V a2 m ls) := hI.below HBX.out (Nat.le_refl _)
  have HLN : Hid (ls.length = m) := hI.1
  have HMN : Hid (ms.length = n) := hC.1
  have HZ : Hid (treeR ms = 0) := hz
  have HFO : Hid (∀ t, t < m → 0 ≤ nAt ms (ls.getD t 0)) := fun t ht => by
    unfold foundB at hf
    rw [List.all_eq_true] at hf
    have ht2 : t < ls.length := by rw [hI.1]; exact ht
    have := hf ls[t] (List.getElem_mem ht2)
    simp [List.getD, ht2] at this ⊢
    exact this
  obtain ⟨r, hr⟩ : ∃ r, r = fitX ms x h ls := ⟨_, rfl⟩
  rw [← hr]
  have HR : Hid (r = fitX ms x h ls) := hr
  clear hC hI hz hf hr hV
  go_enter Try.func44, Try.ntmps44
  go_wp2
  rw [← HV.out]
  go_loopw [7] (fun i wr => ∃ t : Nat, t ≤ m ∧ i = .int .i64 t ∧ Hid (∃ q, wr = V.drewN q) ∧ Hid (∀ t', t' < t → (relB ms x (ls.getD t' 0) && !decide (h < htR ms (ls.getD t' 0))) = true)) (fun i _ => m - (intOf i).toNat)
  case atStart => exact ⟨0, Nat.zero_le _, rfl, ⟨0, rfl⟩, fun t' ht => by omega⟩
  case round =>
    obtain ⟨t, ht, rfl, HWR, HA⟩ := hrel
    obtain ⟨q, hq⟩ := HWR.out
    have hbd : Below V.heap.size V wr := by rw [hq]; exact Joins.below_draws _ _ _
    have HBD : Hid (Below V.heap.size V wr) := hbd
    clear hq
    by_cases htm : t < m
    · rcases HI.out.2 with h0 | ⟨b2, o2, e2, l2, d2⟩
      · omega
      subst e2
      obtain ⟨l, hl⟩ : ∃ l, l = ls.getD t 0 := ⟨_, rfl⟩
      have z0 := (hbd.cell (p := ⟨b2, o2 + t, none⟩) l2).trans (d2 t htm)
      rw [← hl] at z0
      obtain ⟨i1, hi1⟩ : ∃ i, i = nAt ms l := ⟨_, rfl⟩
      have hpos : 0 ≤ i1 := by rw [hi1, hl]; exact HFO.out t htm
      obtain ⟨j, rfl⟩ := Int.eq_ofNat_of_zero_le hpos
      have hjn : j < n := by
        rcases nAt_lt ms l with e | ⟨k, k1, k2, _⟩
        · rw [← hi1] at e; omega
        · rw [← hi1] at k2; have := HMN.out; omega
      rcases HC.out.2 with h0 | ⟨b, off, e0, l0, d0⟩
      · omega
      subst e0
      obtain ⟨hl2, hhl⟩ : ∃ z, z = htR ms l := ⟨_, rfl⟩
      have hhj : (ms.getD j Z3).2.2 = hl2 := by rw [hhl]; unfold htR; rw [← hi1]; rfl
      have y2 := (hbd.cell (p := ⟨b, off + j * 3 + 2, none⟩) l0).trans (d0 j hjn).2.2
      rw [hhj] at y2
      obtain ⟨x0, x1, x2⟩ := cells3 (keepb HX.out hbd).out
      obtain ⟨rb, hrb⟩ : ∃ z, z = relB ms x l := ⟨_, rfl⟩
      have cR : ∀ nq, Calls Try.prog 50 #[.slice (some ⟨b, off, none⟩) n c, .int .i64 x, .int .i64 l] (wr.drewN nq) fun e w' => e = .returned (.bool rb) ∧ w' = wr.drewN nq := fun nq => by
        rw [hrb]
        exact l9Related_any n c _ ms x l _ hn HZ.out ((HC.out.below HBD.out (Nat.le_refl _)).below (Joins.below_draws _ _ _) (Nat.le_refl _))
      have cA : ∀ nq, Calls Try.prog 26 #[.slice (some ⟨b, off, none⟩) n c, .int .i64 l] (wr.drewN nq) fun e w' => e = .returned (.int .i64 (j : Int)) ∧ w' = wr.drewN nq := fun nq => by
        rw [hi1]
        exact l9At_any n c _ ms l _ hn ((HC.out.below HBD.out (Nat.le_refl _)).below (Joins.below_draws _ _ _) (Nat.le_refl _))
      have hti : (t : Int) < (m : Int) := by omega
      have hki : (j : Int) < (n : Int) := by omega
      have HST : Hid ((relB ms x (ls.getD t 0) && !decide (h < htR ms (ls.getD t 0))) = (rb && !decide (h < hl2))) := by show _ = _; rw [← hl, ← hrb, ← hhl]
      clear hl hi1 hhl hhj hrb d0 d2 hpos
      cases rb
      · obtain rfl : r = false := by rw [HR.out]; exact fitX_false (by rw [HLN.out]; exact htm) (by rw [HST.out]; rfl)
        clear HST cA
        go_wp2_with fail
        go_quiet (first | (go_at_call 50; refine Calls.quiet_of_same (cR _)))
        go_wp2
        go_ret
        exact ⟨rfl, HBX.out.trans ((HBD.out.trans (Joins.below_draws _ _ _)).mono HBX.out.size)⟩
      · by_cases hlt : h < hl2
        · obtain rfl : r = false := by rw [HR.out]; exact fitX_false (by rw [HLN.out]; exact htm) (by rw [HST.out, decide_eq_true hlt]; rfl)
          have hd : decide (h < hl2) = true := decide_eq_true hlt
          clear HST
          go_wp2_with fail
          go_quiet (first | (go_at_call 50; refine Calls.quiet_of_same (cR _)) | (go_at_call 26; refine Calls.quiet_of_same (cA _)))
          go_wp2
          go_ret
          exact ⟨rfl, HBX.out.trans ((HBD.out.trans (Joins.below_draws _ _ _)).mono HBX.out.size)⟩
        · have hd : decide (h < hl2) = false := decide_eq_false hlt
          have HA2 : Hid (∀ t', t' < t + 1 → (relB ms x (ls.getD t' 0) && !decide (h < htR ms (ls.getD t' 0))) = true) := fun t' hh => by
            rcases Nat.lt_or_ge t' t with h1 | h1
            · exact HA.out t' h1
            · obtain rfl : t' = t := by omega
              rw [HST.out, hd]; rfl
          have HWQ : Hid (∀ nq, ∃ q, wr.drewN nq = V.drewN q) := fun nq => by
            obtain ⟨q, hq⟩ := HWR.out
            rw [hq]
            exact ⟨q + nq, by simp⟩
          clear HST
          go_wp2_with fail
          go_quiet (first | (go_at_call 50; refine Calls.quiet_of_same (cR _)) | (go_at_call 26; refine Calls.quiet_of_same (cA _)))
          go_wp2
          go_roundw
          case rel => exact ⟨t + 1, by omega, by go_num, HWQ.out _, HA2⟩
          case measure => simp [intOf]; omega
    · have htm2 : t = m := by omega
      subst htm2
      have hti : ¬ (t : Int) < (t : Int) := by omega
      obtain rfl : r = true := by rw [HR.out]; exact fitX_true (fun t' h => HA.out t' (by rw [← HLN.out]; exact h))
      go_wp2
      go_ret
      exact ⟨rfl, HBX.out.trans (HBD.out.mono HBX.out.size)⟩

end Go.Proofs.Ytinlhghlmfcbfaa
