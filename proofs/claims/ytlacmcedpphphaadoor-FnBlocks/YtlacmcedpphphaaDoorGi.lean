/- The program's readBlock keeps its contract. -/
import Derived.Test.YtlacmcedpphphaaDoorGe
import Derived.Test.YtlacmcedpphphaaDoorGg
import Derived.Test.YtlacmcedpphphaaDoorGh
import Derived.Deep.DeepCutAuto
namespace Go.Proofs.YtlacmcedpphphaaDoor
open Go.RowKit Go.Shelf Go.Maps Go.WideMaps

theorem cutP_any (t : List UInt8) (w : World) : Calls Tryd.prog 35 #[.string (str t), .string ⟨#[98, 108, 111, 99, 107]⟩] w fun e w' => e = .returned (.tuple #[.string (str (if Lib.hasPrefix t [98, 108, 111, 99, 107] = true then t.drop 5 else t)), .bool (Lib.hasPrefix t [98, 108, 111, 99, 107])]) ∧ w' = w := by
  refine (Tryd.strings_CutPrefix (str t) ⟨#[98, 108, 111, 99, 107]⟩ w).mono fun e w' ⟨h1, h2⟩ => ⟨?_, h2⟩
  rw [h1]
  simp [str, Lib.trimPrefix]
/-- What readBlock answers, its numbers in memory of their own. -/
def OutR (w w' : World) (e : Ending) (t : List UInt8) : Prop := Below w.heap.size w w' ∧ ∃ (p h m : Int) (l : List Int) (va : Option Addr) (vc : Nat), e = .returned (.tuple #[.agg #[.int .i64 p, .int .i64 h, .int .i64 m, .slice va l.length vc], .bool (rbR t).isSome]) ∧ w'.ownsRow w.heap.size 2 1 (.slice va l.length vc) l.length (ints l) ∧ l.length ≤ 1048576 ∧ ∀ r, rbR t = some r → r = (p, h, m, l)
theorem outR_none {w w' : World} {t : List UInt8} (hb : Below w.heap.size w w') (h : rbR t = none) : OutR w w' (.returned (.tuple #[.agg #[.int .i64 0, .int .i64 0, .int .i64 0, .slice none 0 0], .bool false])) t :=
  ⟨hb, 0, 0, 0, [], none, 0, by rw [h]; rfl, World.ownsRow_nil _ _ _ _, Nat.zero_le _, fun r hr => by rw [h] at hr; cases hr⟩
def MidB (u wc : World) (R : Nat) (p h m : Int) : Prop := R = u.heap.size ∧ wc.heap[R]? = some (.cells #[.int .i64 p, .int .i64 h, .int .i64 m, .slice none 0 0] 27 (0, 0)) ∧ Below u.heap.size u wc
theorem head3 {w : World} {base g vc n : Nat} {p h m : Int} {l : List Int} (H : w.ownsRow base 2 1 (.slice (some ⟨g, 0, none⟩) n vc) n (ints (p :: h :: m :: l))) (hn : 3 ≤ n) :
    w.cell? ⟨g, 0, none⟩ = some (.int .i64 p) ∧ w.cell? ⟨g, 1, none⟩ = some (.int .i64 h) ∧ w.cell? ⟨g, 2, none⟩ = some (.int .i64 m) :=
  ⟨H.cellAt 0 (by omega), H.cellAt 1 (by omega), H.cellAt 2 (by omega)⟩
theorem numbers_any (t : List UInt8) (w : World) (ht : t.length ≤ 1048576) {ns : List Int} (e : rdF (t.length + 1) t [] = some ns) :
    Calls Tryd.prog 36 #[.string (str t)] w fun e w' => ∃ (p h m : Int) (l : List Int) (g vc : Nat), e = .returned (.tuple #[.slice (some ⟨g, 0, none⟩) (l.length + 3) vc, .bool true]) ∧ ns = p :: h :: m :: l ∧ w'.ownsRow w.heap.size 2 1 (.slice (some ⟨g, 0, none⟩) (l.length + 3) vc) (l.length + 3) (ints (p :: h :: m :: l)) ∧ l.length ≤ 1048576 ∧ Below w.heap.size w w' := by
  refine (readNumbers_any t w ht).mono fun e' w' ⟨hb, va, n, vc, h1, h2⟩ => ?_
  obtain ⟨k1, k2, k3, k4⟩ := h2 ns e
  obtain ⟨p, h, m, l, rfl⟩ : ∃ p h m l, ns = p :: h :: m :: l := by
    match ns, k1 with
    | p :: h :: m :: l, _ => exact ⟨p, h, m, l, rfl⟩
    | [], k1 => simp at k1; omega
    | [_], k1 => simp at k1; omega
    | [_, _], k1 => simp at k1; omega
  have hn : n = l.length + 3 := by simpa using k1
  subst hn
  obtain ⟨g, rfl⟩ := row_some k4 (by omega)
  exact ⟨p, h, m, l, g, vc, by rw [h1, e]; rfl, rfl, k4, by omega, hb⟩

/-- An append in a region that draws its order, out of its own run. -/
theorem step_append_runD {P : Program} {w : World} {ops : Array Oper} {o : Oper} {a : Act} {K : Act → World → Prop} {Q : Exit → Act → World → Prop} {E : Prop} (hgd : o.guard = none) (s x : Operand) (t : TypeId)
    (ho : o.op = .call { callee := .builtin .append, args := #[s, x], argTypes := #[t, t] }) {v u v' : Value} {w' : World} (hs : a.eval s = v) (hx : a.eval x = u) (hrun : (Builtin.append_ #[t, t] o.type #[v, u]).run P w = .ok v' w') (h : K (a.put o.dst v') w') :
    if Region.wanted o (yielded ops a.tmps) = true then Oper.wp P o a w K Q else E := by
  have hw : Region.wanted o (yielded ops a.tmps) = true := by simp [Region.wanted, hgd]
  rw [if_pos hw]
  unfold Oper.wp
  simp [execOp, ho, resolve, invoke, builtin, hs, hx, hrun, Result.andThen]
  exact h
theorem nil_added {W : World} {n c : Nat} {a : Addr} {l : List Int} (hl : l.length = n) (hn : n ≤ 1048576) (hc : ∀ j u, (ints l)[j]? = some u → W.cell? (a.add j) = some u) :
    ∃ vb cap w5, (Builtin.append_ #[25, 25] 25 #[.slice none 0 0, .slice (some a) n c]).run Tryd.prog W = .ok (.slice vb n cap) w5 ∧ Hid (w5.ownsRow W.heap.size 2 1 (.slice vb n cap) n (ints l)) ∧ Hid (Below W.heap.size W w5) := by
  obtain ⟨i0, hi, hz0, hz1, hz2⟩ := info_parts Tryd.infoI64
  obtain ⟨v', w5, hrun, hown', hgrow, _⟩ := run_append_own (P := Tryd.prog) W W.heap.size 25 25 2 i0 (.int .i64 0) 1 8 Tryd.underlying25 hi hz0 hz1 hz2 rfl (by decide) (.slice none 0 0) 0 [] (World.ownsRow_nil _ _ _ _) a n c (ints l) (by simp [ints, hl]) hc (by
    intro z hz
    simp only [ints, List.mem_map] at hz
    obtain ⟨_, _, rfl⟩ := hz; rfl) (by unfold maxLen; omega) (by omega) (Nat.le_refl _)
  simp only [Nat.zero_add, List.nil_append] at hown'
  obtain ⟨vb, cap, rfl⟩ : ∃ vb cap, v' = .slice vb n cap := by
    rcases hown'.2 with ⟨q, rfl⟩ | ⟨g, cap, cur, q, _⟩
    · exact ⟨none, 0, q⟩
    · exact ⟨_, _, q⟩
  exact ⟨vb, cap, w5, hrun, hown', (Below.refl _ _).grown hgrow (Nat.le_refl _) (fun k hk => by cases hk)⟩
theorem tail3 {w W : World} {base g vc n : Nat} {p h m : Int} {l : List Int} (H : w.ownsRow base 2 1 (.slice (some ⟨g, 0, none⟩) n vc) n (ints (p :: h :: m :: l))) (hb : Below w.heap.size w W) : ∀ j u, (ints l)[j]? = some u → W.cell? (Addr.add ⟨g, 3, none⟩ j) = some u := by
  intro j u hj
  have hlt := (List.getElem?_eq_some_iff.1 hj).1
  have hlen := H.1
  simp [ints] at hlen hlt
  have h1 := H.cellAt (j + 3) (by omega)
  have h2 : (ints (p :: h :: m :: l))[j + 3]? = some u := by rw [← hj]; simp [ints]
  rw [h2] at h1
  have e : Addr.add ⟨g, 3, none⟩ j = ⟨g, j + 3, none⟩ := by
    unfold Addr.add
    by_cases h0 : j = 0
    · rw [h0]; rfl
    · rw [if_neg h0]; simp; omega
  rw [e]
  exact (hb.cell (p := ⟨g, j + 3, none⟩) (H.lt g rfl).2).trans h1
theorem mid_new (u : World) (p h m : Int) : MidB u (u.alloc (.cells #[.int .i64 p, .int .i64 h, .int .i64 m, .slice none 0 0] 27)).drew u.heap.size p h m := ⟨rfl, heap_alloc_new _ _, (below_box _).trans (Below.refl _ _).drew⟩
/-- Both blocks, the numbers laid into the one. -/
theorem both_set {W : World} {R b : Nat} {p h m : Int} {v c3 : Value} {t : TypeId} (hR : W.heap[R]? = some (.cells #[.int .i64 p, .int .i64 h, .int .i64 m, c3] t (0, 0))) (hb : W.heap[b]? = some (.cells #[.int .i64 0, .int .i64 0, .int .i64 0, .slice none 0 0] t (0, 0))) (hne : b ≠ R) :
    (W.setCell ⟨R, 3, none⟩ v).heap[R]? = some (.cells #[.int .i64 p, .int .i64 h, .int .i64 m, v] t (0, 0)) ∧ (W.setCell ⟨R, 3, none⟩ v).heap[b]? = some (.cells #[.int .i64 0, .int .i64 0, .int .i64 0, .slice none 0 0] t (0, 0)) := by
  refine ⟨?_, (Below.heap_setCell _ ⟨R, 3, none⟩ _ b hne).trans hb⟩
  have := Joins.block_setCell (i := 3) hR v
  simpa using this

set_option maxRecDepth 20000 in
set_option maxHeartbeats 4000000 in
theorem readBlock_any (t : List UInt8) (w : World) (ht : t.length ≤ 1048576) :
    Calls Tryd.prog 21 #[.string (str t)] w fun e w' => OutR w w' e t := by
  have HB1 : Hid (Below w.heap.size w (w.alloc (.cells #[.int .i64 0, .int .i64 0, .int .i64 0, .slice none 0 0] 27))) := below_box _
  have HR1 : Hid ((w.alloc (.cells #[.int .i64 0, .int .i64 0, .int .i64 0, .slice none 0 0] 27)).heap[w.heap.size]? = some (.cells #[.int .i64 0, .int .i64 0, .int .i64 0, .slice none 0 0] 27 (0, 0))) := heap_alloc_new _ _
  obtain ⟨hp, hhp⟩ : ∃ k, k = Lib.hasPrefix t [98, 108, 111, 99, 107] := ⟨_, rfl⟩
  have hC := fun W => cutP_any t W
  rw [← hhp] at hC
  cases hp
  · have HRB : Hid (rbR t = none) := by show _ = _; unfold rbR; rw [← hhp]; rfl
    clear hhp
    simp only [Bool.false_eq_true, if_false] at hC
    go_enter Tryd.func21, Tryd.ntmps21
    go_wp2_with (first | (go_at_call 35; (with_reducible refine (hC _).mono ?_); clear hC; rintro e w' ⟨rfl, rfl⟩))
    refine bodyPost_ret (v := .tuple #[.agg #[.int .i64 0, .int .i64 0, .int .i64 0, .slice none 0 0], .bool false]) (by simp [results, Tryd.results21, go_sem]) rfl ?_
    exact outR_none HB1.out HRB.out
  · simp only [if_true] at hC
    have htd : (t.drop 5).length ≤ 1048576 := by rw [List.length_drop]; omega
    cases ens : rdF ((t.drop 5).length + 1) (t.drop 5) [] with
    | none =>
      have HRB : Hid (rbR t = none) := by show _ = _; unfold rbR; rw [← hhp, if_pos rfl, ens]
      clear hhp
      have hN : Calls Tryd.prog 36 #[.string (str (t.drop 5))] (w.alloc (.cells #[.int .i64 0, .int .i64 0, .int .i64 0, .slice none 0 0] 27)) fun e w' => ∃ (va : Option Addr) (n vc : Nat), e = .returned (.tuple #[.slice va n vc, .bool false]) ∧ Hid (Below (w.heap.size + 1) (w.alloc (.cells #[.int .i64 0, .int .i64 0, .int .i64 0, .slice none 0 0] 27)) w') := (readNumbers_any (t.drop 5) _ htd).mono fun e w' ⟨hb, va, n, vc, h1, _⟩ => ⟨va, n, vc, by rw [h1, ens]; rfl, by have := hb; simp at this; exact this⟩
      clear ens htd
      go_enter Tryd.func21, Tryd.ntmps21
      go_wp2_with (first
        | (go_at_call 35; (with_reducible refine (hC _).mono ?_); clear hC; rintro e w' ⟨rfl, rfl⟩)
        | (go_at_call 36; (with_reducible refine hN.mono ?_); clear hN; rintro e u2 ⟨va, n, vc, rfl, HB2⟩; have HR2 : Hid (u2.heap[w.heap.size]? = some (.cells #[.int .i64 0, .int .i64 0, .int .i64 0, .slice none 0 0] 27 (0, 0))) := (HB2.out.block w.heap.size (by omega)).trans HR1.out; obtain ⟨r0, r1, r2, r3, f0, f1, f2, f3⟩ := cells4 HR2.out))
      obtain ⟨j0, j1, j2, j3⟩ := four_set HR2.out (.int .i64 0) (.int .i64 0) (.int .i64 0) (.slice none 0 0)
      refine bodyPost_ret (v := .tuple #[.agg #[.int .i64 0, .int .i64 0, .int .i64 0, .slice none 0 0], .bool false]) (by simp [results, Tryd.results21, go_sem, j0, j1, j2, j3]) rfl ?_
      exact outR_none ((((((HB1.out.trans (HB2.out.mono (by omega))).setCell (p := ⟨w.heap.size, 0, none⟩) (Nat.le_refl _) _).setCell (p := ⟨w.heap.size, 1, none⟩) (Nat.le_refl _) _).setCell (p := ⟨w.heap.size, 2, none⟩) (Nat.le_refl _) _).setCell (p := ⟨w.heap.size, 3, none⟩) (Nat.le_refl _) _)) HRB.out
    | some ns =>
      have hN : Calls Tryd.prog 36 #[.string (str (t.drop 5))] (w.alloc (.cells #[.int .i64 0, .int .i64 0, .int .i64 0, .slice none 0 0] 27)) fun e w' => ∃ (p h m : Int) (l : List Int) (g vc N : Nat), e = .returned (.tuple #[.slice (some ⟨g, 0, none⟩) N vc, .bool true]) ∧ Hid (N = l.length + 3) ∧ Hid (rbR t = some (p, h, m, l)) ∧ Hid (w'.ownsRow (w.heap.size + 1) 2 1 (.slice (some ⟨g, 0, none⟩) N vc) N (ints (p :: h :: m :: l))) ∧ Hid (l.length ≤ 1048576) ∧ Hid (Below (w.heap.size + 1) (w.alloc (.cells #[.int .i64 0, .int .i64 0, .int .i64 0, .slice none 0 0] 27)) w') :=
        (numbers_any (t.drop 5) _ htd ens).mono fun e w' ⟨p, h, m, l, g, vc, h1, h2, h3, h4, h5⟩ => ⟨p, h, m, l, g, vc, _, h1, rfl, by show _ = _; unfold rbR; rw [← hhp, if_pos rfl, ens, h2], by have := h3; simp at this; exact this, h4, by have := h5; simp at this; exact this⟩
      clear ens htd hhp
      go_enter Tryd.func21, Tryd.ntmps21
      go_wp2_with (first
        | (go_at_call 35; (with_reducible refine (hC _).mono ?_); clear hC; rintro e w' ⟨rfl, rfl⟩)
        | (go_at_call 36; (with_reducible refine hN.mono ?_); clear hN; rintro e u2 ⟨p, h, m, l, g, vc, N, rfl, HN, HRB, HO2, HL, HB2⟩; have HR2 : Hid (u2.heap[w.heap.size]? = some (.cells #[.int .i64 0, .int .i64 0, .int .i64 0, .slice none 0 0] 27 (0, 0))) := (HB2.out.block w.heap.size (by omega)).trans HR1.out; obtain ⟨n0, n1, n2⟩ := head3 HO2.out (by have := HN.out; omega)))
      have hn3 : 3 ≤ N := by have := HN.out; omega
      have hi0 : (0 : Int) < (N : Int) := by omega
      have hi1 : (1 : Int) < (N : Int) := by omega
      have hi2 : (2 : Int) < (N : Int) := by omega
      have ho0 : 0 < N := by omega
      have ho1 : 1 < N := by omega
      have ho2 : 2 < N := by omega
      go_cut [7] (fun s wc => ∃ R, s = .pointer (some ⟨R, 0, none⟩) ∧ Hid (MidB u2 wc R p h m))
      case first =>
        go_region_held3 (fun w' => w'.cell? ⟨g, 0, none⟩ = some (.int .i64 p) ∧ w'.cell? ⟨g, 1, none⟩ = some (.int .i64 h) ∧ w'.cell? ⟨g, 2, none⟩ = some (.int .i64 m)) (go_keep) (fail)
        all_goals
          go_wp2
          go_meet
          exact ⟨_, rfl, mid_new _ _ _ _⟩
      case rest =>
        obtain ⟨R, rfl, HMID⟩ := hcut
        go_wp2
        obtain ⟨b0, b1, b2, b3, g0, g1, g2, g3⟩ := cells4 HMID.out.2.1
        obtain ⟨hcN, hcM⟩ := row_caps HO2.out
        have hbd : Below u2.heap.size u2 wc.drew := HMID.out.2.2.trans (Below.refl _ _).drew
        have HNL : Hid (l.length = N - 3) := by have := HN.out; show _ = _; omega
        by_cases hv : vc = 3
        · obtain rfl : N = 3 := by omega
          subst hv
          obtain ⟨vb, cap, w5, hrun, HO5, HB5⟩ := nil_added (W := wc.drew) (n := 0) (c := 0) (a := ⟨g, 0, none⟩) (l := l) HNL.out (by omega) (fun j u hj => by
            have hlt := (List.getElem?_eq_some_iff.1 hj).1
            simp [ints] at hlt
            have := HNL.out
            omega)
          have HBD : Hid (Below u2.heap.size u2 w5) := hbd.trans (HB5.out.mono hbd.size)
          clear hbd hcN hcM hi0 hi1 hi2 ho0 ho1 ho2 hn3 n0 n1 n2
          have HX5 : Hid (w5.heap[R]? = some (.cells #[.int .i64 p, .int .i64 h, .int .i64 m, .slice none 0 0] 27 (0, 0))) := (HB5.out.block R (lt_of_block HMID.out.2.1)).trans HMID.out.2.1
          have HW5 : Hid (w5.heap[w.heap.size]? = some (.cells #[.int .i64 0, .int .i64 0, .int .i64 0, .slice none 0 0] 27 (0, 0))) := (HBD.out.block w.heap.size (lt_of_block HR2.out)).trans HR2.out
          have hRw : w.heap.size < R := by rw [HMID.out.1]; exact lt_of_block HR2.out
          obtain ⟨x0, x1, x2, x3, y0, y1, y2, y3⟩ := cells4 HX5.out
          have HS := both_set (v := .slice vb 0 cap) HX5.out HW5.out (by omega)
          obtain ⟨p0, p1, p2, p3, q0, q1, q2, q3⟩ := cells4 HS.1
          obtain ⟨r0, r1, r2, r3, f0, f1, f2, f3⟩ := cells4 HS.2
          have HSW : Hid ((w5.setCell ⟨R, 3, none⟩ (.slice vb 0 cap)).heap[w.heap.size]? = some (.cells #[.int .i64 0, .int .i64 0, .int .i64 0, .slice none 0 0] 27 (0, 0))) := HS.2
          clear HS
          go_region_law (first | (refine step_append_runD (by rfl) (.tmp 35) (.tmp 37) 25 (by rfl) (by rfl) (by rfl) hrun ?_))
          all_goals
            go_wp2
            obtain ⟨j0, j1, j2, j3⟩ := four_set HSW.out (.int .i64 p) (.int .i64 h) (.int .i64 m) (.slice vb 0 cap)
            refine bodyPost_ret (v := .tuple #[.agg #[.int .i64 p, .int .i64 h, .int .i64 m, .slice vb 0 cap], .bool true]) (by simp [results, Tryd.results21, go_sem, j0, j1, j2, j3]) rfl ?_
            have HBU : Below w.heap.size w w5 := (HB1.out.trans (HB2.out.mono (by omega))).trans (HBD.out.mono (Nat.le_of_lt (lt_of_block HR2.out)))
            have hRd : R < wc.drew.heap.size := lt_of_block HMID.out.2.1
            refine ⟨((((HBU.setCell (p := ⟨R, 3, none⟩) (Nat.le_of_lt hRw) _).setCell (p := ⟨w.heap.size, 0, none⟩) (Nat.le_refl _) _).setCell (p := ⟨w.heap.size, 1, none⟩) (Nat.le_refl _) _).setCell (p := ⟨w.heap.size, 2, none⟩) (Nat.le_refl _) _).setCell (p := ⟨w.heap.size, 3, none⟩) (Nat.le_refl _) _, p, h, m, l, vb, cap, ?_, ?_, HL.out, fun r hr => ?_⟩
            · rw [HRB.out, HNL.out]; rfl
            · rw [HNL.out]
              exact row_res4 (ownsRow_setCell_below HO5.out (a := ⟨R, 3, none⟩) hRd _) (Nat.lt_trans hRw hRd) (Nat.le_of_lt (Nat.lt_trans hRw hRd)) _ _ _ _
            · rw [HRB.out] at hr
              exact (Option.some.inj hr).symm
        · obtain ⟨vb, cap, w5, hrun, HO5, HB5⟩ := nil_added (W := wc.drew) (c := vc - 3) (a := ⟨g, 3, none⟩) HNL.out (by have := HL.out; have := HN.out; omega) (tail3 HO2.out hbd)
          have hk1 : (3 : Int) ≤ (N : Int) := by omega
          have hk2 : (N : Int) ≤ (vc : Int) := by omega
          have hk3 : N ≤ vc := hcN
          have hk4 : (3 : Int) ≤ (vc : Int) := by omega
          have HBD : Hid (Below u2.heap.size u2 w5) := hbd.trans (HB5.out.mono hbd.size)
          clear hbd hcN hcM hi0 hi1 hi2 ho0 ho1 ho2 n0 n1 n2
          have HX5 : Hid (w5.heap[R]? = some (.cells #[.int .i64 p, .int .i64 h, .int .i64 m, .slice none 0 0] 27 (0, 0))) := (HB5.out.block R (lt_of_block HMID.out.2.1)).trans HMID.out.2.1
          have HW5 : Hid (w5.heap[w.heap.size]? = some (.cells #[.int .i64 0, .int .i64 0, .int .i64 0, .slice none 0 0] 27 (0, 0))) := (HBD.out.block w.heap.size (lt_of_block HR2.out)).trans HR2.out
          have hRw : w.heap.size < R := by rw [HMID.out.1]; exact lt_of_block HR2.out
          obtain ⟨x0, x1, x2, x3, y0, y1, y2, y3⟩ := cells4 HX5.out
          have HS := both_set (v := .slice vb (N - 3) cap) HX5.out HW5.out (by omega)
          obtain ⟨p0, p1, p2, p3, q0, q1, q2, q3⟩ := cells4 HS.1
          obtain ⟨r0, r1, r2, r3, f0, f1, f2, f3⟩ := cells4 HS.2
          have HSW : Hid ((w5.setCell ⟨R, 3, none⟩ (.slice vb (N - 3) cap)).heap[w.heap.size]? = some (.cells #[.int .i64 0, .int .i64 0, .int .i64 0, .slice none 0 0] 27 (0, 0))) := HS.2
          clear HS
          go_region_law (first | (refine step_append_runD (by rfl) (.tmp 35) (.tmp 37) 25 (by rfl) (by rfl) (by rfl) hrun ?_))
          all_goals
            go_wp2
            obtain ⟨j0, j1, j2, j3⟩ := four_set HSW.out (.int .i64 p) (.int .i64 h) (.int .i64 m) (.slice vb (N - 3) cap)
            refine bodyPost_ret (v := .tuple #[.agg #[.int .i64 p, .int .i64 h, .int .i64 m, .slice vb (N - 3) cap], .bool true]) (by simp [results, Tryd.results21, go_sem, j0, j1, j2, j3]) rfl ?_
            have HBU : Below w.heap.size w w5 := (HB1.out.trans (HB2.out.mono (by omega))).trans (HBD.out.mono (Nat.le_of_lt (lt_of_block HR2.out)))
            have hRd : R < wc.drew.heap.size := lt_of_block HMID.out.2.1
            refine ⟨((((HBU.setCell (p := ⟨R, 3, none⟩) (Nat.le_of_lt hRw) _).setCell (p := ⟨w.heap.size, 0, none⟩) (Nat.le_refl _) _).setCell (p := ⟨w.heap.size, 1, none⟩) (Nat.le_refl _) _).setCell (p := ⟨w.heap.size, 2, none⟩) (Nat.le_refl _) _).setCell (p := ⟨w.heap.size, 3, none⟩) (Nat.le_refl _) _, p, h, m, l, vb, cap, ?_, ?_, HL.out, fun r hr => ?_⟩
            · rw [HRB.out, HNL.out]; rfl
            · rw [HNL.out]
              exact row_res4 (ownsRow_setCell_below HO5.out (a := ⟨R, 3, none⟩) hRd _) (Nat.lt_trans hRw hRd) (Nat.le_of_lt (Nat.lt_trans hRw hRd)) _ _ _ _
            · rw [HRB.out] at hr
              exact (Option.some.inj hr).symm

end Go.Proofs.YtlacmcedpphphaaDoor
