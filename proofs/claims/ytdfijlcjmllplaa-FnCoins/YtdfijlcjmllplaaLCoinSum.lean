/- The values of coins together: the specification's sum and the program's; CoinSum. -/
import Derived.Test.YtdfijlcjmllplaaJn3
import Derived.Test.YtdfijlcjmllplaaJn2
import Derived.Test.YtdfijlcjmllplaaJn1
import Derived.Deep.Slices
namespace Go.Proofs.Ytdfijlcjmllplaa
open Go.RowKit Go.Maps Go.WideMaps

def valsR : List Co → Int
  | [] => 0
  | c :: t => c.v + valsR t
/-- Every value within its bounds, and not too many of them. -/
def ValsOk (cs : List Co) : Prop := ∀ c ∈ cs, 1 ≤ c.v ∧ c.v ≤ 1000000
theorem mem_getD {cs : List Co} {n j : Nat} (hj : j < n) (hn : cs.length = n) : cs.getD j C0 ∈ cs := by
  have e : cs.getD j C0 = cs[j]'(by omega) := by simp [List.getD, List.getElem?_eq_getElem (show j < cs.length by omega)]
  rw [e]; exact List.getElem_mem _
theorem coin_val {c : Co} (h : coinR c = 0) : 1 ≤ c.v ∧ c.v ≤ 1000000 := by
  unfold coinR at h
  by_cases h1 : refB (c.p, c.q) = false ∨ inB c.h 0 999 = false
  · rw [if_pos h1] at h; cases h
  · rw [if_neg h1] at h; unfold outR at h
    cases e : inB c.v 1 1000000
    · rw [if_pos e] at h; cases h
    · simp [inB] at e; exact e
theorem vals_ok {pr : Int × Int} {cs : List Co} (h : csR pr cs = 0) : ValsOk cs := by
  induction cs generalizing pr with
  | nil => intro c hc; cases hc
  | cons c t ih =>
    have h0 : coinR c = 0 := by
      by_cases e : coinR c = 0
      · exact e
      · rw [csR_bad rfl e] at h; exact absurd h e
    have h1 : ¬ cmpR (c.p, c.q) pr ≤ 0 := fun e => by rw [csR_form h0 e] at h; cases h
    rw [csR_go h0 h1] at h
    intro d hd
    rcases List.mem_cons.1 hd with rfl | hd
    · exact coin_val h0
    · exact ih h d hd
theorem coins_ok {cs : List Co} (h : coinsR cs = 0) : cs.length ≤ 40 ∧ ValsOk cs := by
  unfold coinsR at h
  by_cases e : 40 < cs.length
  · rw [if_pos e] at h; cases h
  · rw [if_neg e] at h; exact ⟨by omega, vals_ok h⟩
theorem vals_le {cs : List Co} (h : ValsOk cs) : 0 ≤ valsR cs ∧ valsR cs ≤ 1000000 * (cs.length : Int) := by
  induction cs with
  | nil => simp [valsR]
  | cons c t ih =>
    have h1 := ih (fun d hd => h d (List.mem_cons_of_mem _ hd))
    have h2 := h c (List.mem_cons_self ..)
    simp only [valsR, List.length_cons]
    omega
theorem vals_take {cs : List Co} {n j : Nat} {o : Co} (hn : cs.length = n) (hlt : j < n) (ho : o = cs.getD j C0) : valsR (cs.take (j + 1)) = valsR (cs.take j) + o.v := by
  have e : cs.take (j + 1) = cs.take j ++ [o] := by
    have e : cs.getD j C0 = cs[j]'(by omega) := by simp [List.getD, List.getElem?_eq_getElem (show j < cs.length by omega)]
    rw [List.take_add_one, ho, e, List.getElem?_eq_getElem (by omega)]; rfl
  rw [e]
  generalize cs.take j = l
  induction l with
  | nil => simp [valsR]
  | cons c t ih => simp only [List.cons_append, valsR, ih]; omega
theorem ValsOk.take {cs : List Co} (h : ValsOk cs) (j : Nat) : ValsOk (cs.take j) := fun c hc => h c (List.mem_of_mem_take hc)
theorem vals_bound {cs : List Co} {n j : Nat} (h : ValsOk cs) (hn : cs.length = n) (h40 : n ≤ 40) : 0 ≤ valsR (cs.take j) ∧ valsR (cs.take j) ≤ 40000000 := by
  have h1 := vals_le (h.take j)
  have h2 : (cs.take j).length ≤ 40 := by rw [List.length_take]; omega
  omega

theorem sumOf_any (n c : Nat) (a : Option Addr) (cs : List Co) (w : World) (hn : n ≤ 40) (hv : ValsOk cs) (hC : CAt w a n cs) :
    Calls Try.prog 35 #[.slice a n c] w fun e w' => e = .returned (.int .i64 (valsR cs)) ∧ Below w.heap.size w w' := by
  have HC : Hid (CAt w a n cs) := hC
  have HN : Hid (cs.length = n) := hC.1
  have HVS : Hid (ValsOk cs) := hv
  clear hC hv
  go_enter Try.func35, Try.ntmps35
  go_wp2
  go_loopw [3, 8] (fun t i wr => ∃ j : Nat, j ≤ n ∧ i = .int .i64 j ∧ ∃ v : Int, t = .int .i64 v ∧ Hid (v = valsR (cs.take j)) ∧ Below w.heap.size w wr) (fun _ i _ => n - (intOf i).toNat)
  case atStart => exact ⟨0, Nat.zero_le _, rfl, _, rfl, rfl, Below.refl _ _⟩
  case round =>
    obtain ⟨j, hj, rfl, v, rfl, HT, hbel⟩ := hrel
    by_cases hlt : j < n
    · rcases HC.out.2 with h0 | ⟨b, off, e0, l0, d0⟩
      · omega
      subst e0
      obtain ⟨o, ho⟩ : ∃ o, o = cs.getD j C0 := ⟨_, rfl⟩
      obtain ⟨ka, kc, p0, p4, p5⟩ := d0 j hlt
      rw [← ho] at p0 p4 p5
      have HS : Hid (o = cs.getD j C0) := ho
      have HV := HVS.out o (by rw [ho]; exact mem_getD hlt HN.out)
      obtain ⟨op, oq, ov, ol, ox, oy, oh, om⟩ := o
      obtain ⟨x0, x1, x2, x3, x4, x5, x6, x7⟩ := p0.below hbel l0
      simp only at x0 x1 x2 x3 x4 x5 x6 x7 p4 p5 HV
      have HNX : Hid (cs.drop j = (⟨op, oq, ov, ol, ox, oy, oh, om⟩ : Co) :: cs.drop (j + 1)) := next_coin HN.out hlt HS.out
      have hki : (j : Int) < (n : Int) := by omega
      have hb0 := vals_bound (j := j) HVS.out HN.out hn
      rw [← HT.out] at hb0
      have hwr := IntWalk.i64_in (v + ov) (by omega)
      clear ho d0 p0 p4 p5
      go_wp2
      go_roundw
      case rel => exact ⟨j + 1, by omega, by go_num, _, rfl, by show _ = _; rw [vals_take HN.out hlt HS.out, HT.out], hbel.alloc hbel.size _⟩
      case measure => simp [intOf]; omega
    · obtain rfl : v = valsR cs := by rw [HT.out, List.take_of_length_le (by rw [HN.out]; omega)]
      go_wp2
      go_ret
      exact ⟨rfl, hbel⟩

/-- What CoinSum answers: a code, and the values together. -/
def coinSumR (cs : List Co) : Int × Int := if coinsR cs = 0 then (0, valsR cs) else (coinsR cs, 0)

theorem iCoinSum_any (n c : Nat) (a : Option Addr) (cs : List Co) (w : World) (hn : n ≤ 1048576) (hk : ∀ j, j < n → (cs.getD j C0).l.length ≤ 1048576) (hC : CAt w a n cs) :
    Calls Try.prog 12 #[.slice a n c] w fun e w' => e = .returned (.agg #[.int .i64 (coinSumR cs).1, .int .i64 (coinSumR cs).2]) ∧ Below w.heap.size w w' := by
  have hbx : Below w.heap.size w (w.alloc (.cells #[.int .i64 0, .int .i64 0] 44)) := below_box _
  have hF := iCoinsFault_any n c a cs (w.alloc (.cells #[.int .i64 0, .int .i64 0] 44)) hn hk (hC.below hbx (Nat.le_refl _))
  have HX : Hid ((w.alloc (.cells #[.int .i64 0, .int .i64 0] 44)).heap[w.heap.size]? = some (.cells #[.int .i64 0, .int .i64 0] 44 (0, 0))) := heap_alloc_new _ _
  have HB : Hid (Below w.heap.size w (w.alloc (.cells #[.int .i64 0, .int .i64 0] 44))) := hbx
  obtain ⟨cd, hcd⟩ : ∃ r, r = coinsR cs := ⟨_, rfl⟩
  rw [← hcd] at hF
  have HC : Hid (CAt w a n cs) := hC
  by_cases h0 : cd = 0
  · subst h0
    obtain ⟨h40, hv⟩ := coins_ok hcd.symm
    rw [hC.1] at h40
    have e : coinSumR cs = (0, valsR cs) := by unfold coinSumR; rw [if_pos hcd.symm]
    rw [e]
    have HVS : Hid (ValsOk cs) := hv
    clear hcd e hv hC hk hbx
    go_enter Try.func12, Try.ntmps12
    go_wp2_with (first
      | (go_at_call 11; (with_reducible refine hF.mono ?_); clear hF; rintro e w2 ⟨rfl, hb2⟩; have HX2 := keepb HX.out hb2; have HB2 : Hid (Below w.heap.size w w2) := HB.out.trans (hb2.mono HB.out.size); have hS := sumOf_any n c a cs w2 h40 HVS.out (HC.out.below HB2.out (Nat.le_refl _)); clear hb2)
      | (go_at_call 35; (with_reducible refine hS.mono ?_); clear hS; rintro e w3 ⟨rfl, hb3⟩; have HX3 := keepb HX2.out hb3; obtain ⟨y0, y1⟩ := cells2 HX3.out; have f0 := Joins.unfrozen_of_block HX3.out 0; have f1 := Joins.unfrozen_of_block HX3.out 1; have HB3 : Hid (Below w.heap.size w w3) := HB2.out.trans (hb3.mono HB2.out.size); clear hb3))
    obtain ⟨_, j1⟩ := two_set HX3.out (.int .i64 0) (.int .i64 (valsR cs))
    refine bodyPost_ret (v := .agg #[.int .i64 0, .int .i64 (valsR cs)]) (by simp [results, Try.results12, go_sem, j1]) rfl ⟨rfl, (HB3.out.setCell (p := ⟨w.heap.size, 0, none⟩) (Nat.le_refl _) _).setCell (p := ⟨w.heap.size, 1, none⟩) (Nat.le_refl _) _⟩
  · have e : coinSumR cs = (cd, 0) := by unfold coinSumR; rw [← hcd, if_neg h0]
    rw [e]
    clear hcd e hC hk hbx
    go_enter Try.func12, Try.ntmps12
    go_wp2_with (first
      | (go_at_call 11; (with_reducible refine hF.mono ?_); clear hF; rintro e w2 ⟨rfl, hb2⟩; have HX2 := keepb HX.out hb2; obtain ⟨y0, y1⟩ := cells2 HX2.out; have f0 := Joins.unfrozen_of_block HX2.out 0; have f1 := Joins.unfrozen_of_block HX2.out 1; have HB2 : Hid (Below w.heap.size w w2) := HB.out.trans (hb2.mono HB.out.size); clear hb2))
    obtain ⟨_, j1⟩ := two_set HX2.out (.int .i64 cd) (.int .i64 0)
    refine bodyPost_ret (v := .agg #[.int .i64 cd, .int .i64 0]) (by simp [results, Try.results12, go_sem, j1]) rfl ⟨rfl, (HB2.out.setCell (p := ⟨w.heap.size, 0, none⟩) (Nat.le_refl _) _).setCell (p := ⟨w.heap.size, 1, none⟩) (Nat.le_refl _) _⟩

end Go.Proofs.Ytdfijlcjmllplaa
