/- The program's bench: those whose coins are spent are deleted. -/
import Derived.Test.YtgfhnmjpkanikaaEn
namespace Go.Proofs.Ytgfhnmjpkanikaa
open Go.RowKit Go.Maps Go.WideMaps

def SeatAt (xs : List Value) (t : Nat) (m : Mb) : Prop := xs[t * 3]? = some (.int .i64 m.1) ∧ xs[t * 3 + 1]? = some (.int .i64 m.2.1) ∧ xs[t * 3 + 2]? = some (.int .i64 m.2.2)
theorem seat_cells {ms : List Mb} {n : Nat} (hn : ms.length = n) : ∀ t, t < n → SeatAt (mcells ms) t (ms.getD t Z3) := fun t ht => mcells_at ms t (by omega)
theorem grown_below {w w1 w2 : World} {g : Nat} (h : w.grownBy w1 (some g)) (hb : Below w1.heap.size w1 w2) : w.grownBy w2 (some g) :=
  ⟨hb.os.trans h.os, hb.tape.trans h.tape, hb.output.trans h.output, Nat.le_trans h.size hb.size, fun b hl hne => (hb.block b (Nat.lt_of_lt_of_le hl h.size)).trans (h.block b hl hne)⟩
theorem grown_trans {w w1 w2 : World} {g : Nat} (h : w.grownBy w1 (some g)) (k : w1.grownBy w2 (some g)) : w.grownBy w2 (some g) :=
  ⟨k.os.trans h.os, k.tape.trans h.tape, k.output.trans h.output, Nat.le_trans h.size k.size, fun b hl hne => (k.block b (Nat.lt_of_lt_of_le hl h.size) hne).trans (h.block b hl hne)⟩
/-- In the midst of the deleting. -/
structure DelMid (w wr : World) (lo g n cap i j : Nat) (ms : List Mb) (p : Mb → Bool) : Prop where
  gr : w.grownBy wr (some g)
  row : ∃ xs, wr.ownsRow lo 68 3 (.slice (some ⟨g, 0, none⟩) n cap) n xs ∧ xs.take (i * 3) = mcells ((ms.take j).filter p) ∧ ∀ t, j ≤ t → t < n → SeatAt xs t (ms.getD t Z3)
theorem DelMid.below {w wr w2 : World} {lo g n cap i j : Nat} {ms : List Mb} {p : Mb → Bool} (h : DelMid w wr lo g n cap i j ms p) (hb : Below wr.heap.size wr w2) : DelMid w w2 lo g n cap i j ms p := by
  obtain ⟨xs, h1, h2, h3⟩ := h.row
  exact ⟨grown_below h.gr hb, xs, h1.kept (grown_of_below hb) (by cases Value.ownBlock (.slice (some ⟨g, 0, none⟩) n cap) <;> simp), h2, h3⟩
theorem DelMid.skip {w wr : World} {lo g n cap i j : Nat} {ms : List Mb} {p : Mb → Bool} {o : Mb} (h : DelMid w wr lo g n cap i j ms p) (hn : ms.length = n) (hlt : j < n) (ho : o = ms.getD j Z3) (hp : p o = false) : DelMid w wr lo g n cap i (j + 1) ms p := by
  obtain ⟨xs, h1, h2, h3⟩ := h.row
  exact ⟨h.gr, xs, h1, by rw [filt_no hn hlt ho hp]; exact h2, fun t h4 h5 => h3 t (by omega) h5⟩
theorem take_sets {xs ys : List Value} {i : Nat} {a b c : Value} (h : xs.take (i * 3) = ys) (hl : i * 3 + 2 < xs.length) : (((xs.set (i * 3) a).set (i * 3 + 1) b).set (i * 3 + 2) c).take ((i + 1) * 3) = ys ++ [a, b, c] := by
  subst h
  have hlt : (xs.take (i * 3)).length = i * 3 := by rw [List.length_take]; omega
  apply List.ext_getElem?
  intro t
  by_cases h1 : t < (i + 1) * 3
  · rw [List.getElem?_take_of_lt h1]
    by_cases h2 : t < i * 3
    · rw [List.getElem?_set_ne (by omega), List.getElem?_set_ne (by omega), List.getElem?_set_ne (by omega), List.getElem?_append_left (by omega), List.getElem?_take_of_lt h2]
    · rw [List.getElem?_append_right (by omega), hlt]
      have h3 : t = i * 3 ∨ t = i * 3 + 1 ∨ t = i * 3 + 2 := by omega
      rcases h3 with h3 | h3 | h3
      · subst h3
        rw [List.getElem?_set_ne (by omega), List.getElem?_set_ne (by omega), List.getElem?_set_self (by omega), Nat.sub_self]; rfl
      · subst h3
        rw [List.getElem?_set_ne (by omega), List.getElem?_set_self (by simp; omega), Nat.add_sub_cancel_left]; rfl
      · subst h3
        rw [List.getElem?_set_self (by simp; omega), Nat.add_sub_cancel_left]; rfl
  · rw [List.getElem?_eq_none (by rw [List.length_take]; omega), List.getElem?_eq_none (by simp; omega)]
theorem DelMid.put {w wr : World} {lo g n cap i j : Nat} {ms : List Mb} {p : Mb → Bool} {nk np nq : Int} (h : DelMid w wr lo g n cap i j ms p) (hn : ms.length = n) (hij : i < j) (hlt : j < n) (ho : (nk, np, nq) = ms.getD j Z3) (hp : p (nk, np, nq) = true) :
    (∃ u0 u1 u2, wr.cell? ⟨g, i * 3, none⟩ = some u0 ∧ wr.cell? ⟨g, i * 3 + 1, none⟩ = some u1 ∧ wr.cell? ⟨g, i * 3 + 2, none⟩ = some u2) ∧ wr.frozen? ⟨g, i * 3, none⟩ = false ∧ wr.frozen? ⟨g, i * 3 + 1, none⟩ = false ∧ wr.frozen? ⟨g, i * 3 + 2, none⟩ = false ∧
      Hid (DelMid w (((wr.setCell ⟨g, i * 3, none⟩ (.int .i64 nk)).setCell ⟨g, i * 3 + 1, none⟩ (.int .i64 np)).setCell ⟨g, i * 3 + 2, none⟩ (.int .i64 nq)) lo g n cap (i + 1) (j + 1) ms p) := by
  obtain ⟨xs, h1, h2, h3⟩ := h.row
  have hxl := h1.1
  have r1 := h1.stored (i * 3) (.int .i64 nk)
  have r2 := r1.1.stored (i * 3 + 1) (.int .i64 np)
  have r3 := r2.1.stored (i * 3 + 2) (.int .i64 nq)
  refine ⟨⟨_, _, _, (h1.cellAt (i * 3) (by omega)).trans (List.getElem?_eq_getElem (by omega)), (h1.cellAt (i * 3 + 1) (by omega)).trans (List.getElem?_eq_getElem (by omega)), (h1.cellAt (i * 3 + 2) (by omega)).trans (List.getElem?_eq_getElem (by omega))⟩, h1.frozenAt _, h1.frozenAt _, h1.frozenAt _, grown_trans (grown_trans (grown_trans h.gr r1.2) r2.2) r3.2, _, r3.1, ?_, fun t h4 h5 => ?_⟩
  · rw [take_sets h2 (by omega), filt_yes hn hlt ho hp, mcells_snoc]
  · obtain ⟨a0, a1, a2⟩ := h3 t (by omega) h5
    refine ⟨?_, ?_, ?_⟩
    · rw [List.getElem?_set_ne (by omega), List.getElem?_set_ne (by omega), List.getElem?_set_ne (by omega)]; exact a0
    · rw [List.getElem?_set_ne (by omega), List.getElem?_set_ne (by omega), List.getElem?_set_ne (by omega)]; exact a1
    · rw [List.getElem?_set_ne (by omega), List.getElem?_set_ne (by omega), List.getElem?_set_ne (by omega)]; exact a2
theorem filt_all {ms : List Mb} {p : Mb → Bool} (h : ∀ t, t < ms.length → p (ms.getD t Z3) = true) : ms.filter p = ms := by
  rw [List.filter_eq_self]
  intro x hx
  obtain ⟨t, ht, rfl⟩ := List.getElem_of_mem hx
  have := h t ht
  rw [List.getD, List.getElem?_eq_getElem ht] at this
  exact this
theorem filt_first {ms : List Mb} {n k : Nat} {p : Mb → Bool} (hn : ms.length = n) (hk : k < n) (h : ∀ t, t < k → p (ms.getD t Z3) = true) (h2 : p (ms.getD k Z3) = false) : (ms.take (k + 1)).filter p = ms.take k := by
  rw [filt_no hn hk rfl h2]
  refine filt_all fun t ht => ?_
  rw [List.length_take] at ht
  have e : (ms.take k).getD t Z3 = ms.getD t Z3 := by simp only [List.getD]; rw [List.getElem?_take_of_lt (by omega)]
  rw [e]
  exact h t (by omega)

set_option maxRecDepth 20000 in
set_option maxHeartbeats 4000000 in
theorem deleteF_any (g n cap lo B n2 ic : Nat) (ia : Option Addr) (ms : List Mb) (rs : List (Int × Int)) (w : World) (hn : n ≤ 500) (hn2 : n2 ≤ 1048576) (h : w.ownsRow lo 68 3 (.slice (some ⟨g, 0, none⟩) n cap) n (mcells ms)) (hG : GAt w ia n2 rs) (hB : w.cell? ⟨B, 0, none⟩ = some (.slice ia n2 ic)) (hBl : B < w.heap.size) (hBg : B ≠ g) (hIg : ∀ b o, ia = some ⟨b, o, none⟩ → b ≠ g) :
    Calls Try.prog 59 #[.slice (some ⟨g, 0, none⟩) n cap, .func (.func 60) #[] #[.pointer (some ⟨B, 0, none⟩)]] w fun e w' => DelO w w' e lo g cap (ms.filter fun m => !memB rs m.2) := by
  have hl := own_len h
  obtain ⟨hq1, hq2⟩ := row_cap h
  have hI := idxLose_any n cap B (some ⟨g, 0, none⟩) ms n2 ic ia rs w (by omega) (mat_row h hl) hn2 hG hB hBl
  have HH : Hid (w.ownsRow lo 68 3 (.slice (some ⟨g, 0, none⟩) n cap) n (mcells ms)) := h
  have HN : Hid (ms.length = n) := hl
  have HCA : Hid (∀ W (m : Mb), w.grownBy W (some g) → Calls Try.prog 60 #[.agg #[.int .i64 m.1, .int .i64 m.2.1, .int .i64 m.2.2], .pointer (some ⟨B, 0, none⟩)] W fun e w' => e = .returned (.bool (memB rs m.2)) ∧ Below W.heap.size W w') := fun W m hW =>
    loseC_any B n2 ic ia rs m.1 m.2.1 m.2.2 W hn2 (gat_grown hG hW (fun b o e e2 => hIg b o e (Option.some.inj e2).symm)) ((World.cell?_of_block (hW.block B hBl (fun e => hBg (Option.some.inj e)))).trans hB) (Nat.lt_of_lt_of_le hBl hW.size)
  obtain ⟨pd, hpd⟩ : ∃ q : Mb → Bool, q = fun m => !memB rs m.2 := ⟨_, rfl⟩
  rw [← hpd]
  have HPD : Hid (pd = fun m => !memB rs m.2) := hpd
  unfold maxLen at hq2
  clear h hG hB hpd hl
  go_enter Try.func59, Try.ntmps59
  go_wp2_with (fail)
  refine hI.mono ?_
  clear hI
  rintro e w2 ⟨i, rfl, hi, hb2⟩
  rcases hi with ⟨rfl, hno⟩ | ⟨k, hk, rfl, hah, hhit⟩
  · have HFI : Hid (DelO w w2 (.returned (.slice (some ⟨g, 0, none⟩) n cap)) lo g cap (ms.filter pd)) := by
      have e : ms.filter pd = ms := filt_all fun t ht => by rw [HPD.out]; have := hno t (by rw [← HN.out]; exact ht); simp only at this ⊢; rw [this]; rfl
      rw [e]
      refine ⟨by rw [HN.out], ?_, grown_below (World.grownBy.refl _ _) hb2⟩
      rw [HN.out]
      exact HH.out.kept (grown_of_below hb2) (by cases Value.ownBlock (.slice (some ⟨g, 0, none⟩) n cap) <;> simp)
    clear hno
    go_wp2
    go_ret
    exact HFI.out
  · have HM0 : Hid (DelMid w w2 lo g n cap k (k + 1) ms pd) := by
      have h0 : DelMid w w lo g n cap k (k + 1) ms pd := ⟨World.grownBy.refl _ _, mcells ms, HH.out, by
        rw [filt_first HN.out hk (fun t ht => by rw [HPD.out]; have := hah t ht; simp only at this ⊢; rw [this]; rfl) (by rw [HPD.out]; simp only at hhit ⊢; rw [hhit]; rfl)]
        exact mcells_take ms k, fun t _ h5 => seat_cells HN.out t h5⟩
      exact h0.below hb2
    have hkm : ¬ (k : Int) = -1 := by omega
    have hkb : ((k : Int) == -1) = false := by simp
    clear hah hhit hb2
    go_wp2
    go_loopw [5, 6] (fun a b wr => ∃ i j : Nat, j ≤ n ∧ i < j ∧ a = .int .i64 i ∧ b = .int .i64 j ∧ Hid (DelMid w wr lo g n cap i j ms pd)) (fun _ b _ => n - (intOf b).toNat)
    case atStart => exact ⟨k, k + 1, by omega, by omega, rfl, by go_num, HM0.out⟩
    case round =>
      obtain ⟨i, j, hj, hij, rfl, rfl, HM⟩ := hrel
      by_cases hlt : j < n
      · obtain ⟨o, ho⟩ : ∃ o, o = ms.getD j Z3 := ⟨_, rfl⟩
        have HS : Hid (o = ms.getD j Z3) := ho
        obtain ⟨x0, x1, x2⟩ : wr.cell? ⟨g, j * 3, none⟩ = some (.int .i64 o.1) ∧ wr.cell? ⟨g, j * 3 + 1, none⟩ = some (.int .i64 o.2.1) ∧ wr.cell? ⟨g, j * 3 + 2, none⟩ = some (.int .i64 o.2.2) := by
          obtain ⟨xs, h1, _, h3⟩ := HM.out.row
          obtain ⟨a0, a1, a2⟩ := h3 j (Nat.le_refl _) hlt
          rw [← ho] at a0 a1 a2
          have hxl := h1.1
          exact ⟨(h1.cellAt _ (by omega)).trans a0, (h1.cellAt _ (by omega)).trans a1, (h1.cellAt _ (by omega)).trans a2⟩
        have hca := HCA.out (wr.alloc (.cells #[.int .i64 o.1, .int .i64 o.2.1, .int .i64 o.2.2] 68)) o (grown_below HM.out.gr (below_box _))
        obtain ⟨mb, hmb⟩ : ∃ b, b = memB rs o.2 := ⟨_, rfl⟩
        rw [← hmb] at hca
        have HPO : Hid (pd o = !mb) := by show _ = _; rw [HPD.out, hmb]
        obtain ⟨nk, np, nq⟩ := o
        simp only at x0 x1 x2 hca
        have T1 : Hid ((wr.alloc (.cells #[.int .i64 nk, .int .i64 np, .int .i64 nq] 68)).heap[wr.heap.size]? = some (.cells #[.int .i64 nk, .int .i64 np, .int .i64 nq] 68 (0, 0))) := heap_alloc_new _ _
        have HM1 : Hid (DelMid w (wr.alloc (.cells #[.int .i64 nk, .int .i64 np, .int .i64 nq] 68)) lo g n cap i j ms pd) := HM.out.below (below_box _)
        have hki : (j : Int) < (n : Int) := by omega
        have hii : (i : Int) < (n : Int) := by omega
        clear ho hmb
        cases mb
        · go_wp2_with (first
            | (go_at_call 60; (with_reducible refine hca.mono ?_); clear hca; rintro e w3 ⟨rfl, hb3⟩; obtain ⟨y0, y1, y2⟩ := cells3 (keepb T1.out hb3).out; obtain ⟨⟨u0, u1, u2, c0, c1, c2⟩, f0, f1, f2, HMN⟩ := (HM1.out.below hb3).put HN.out hij hlt HS.out HPO.out; clear hb3 x0 x1 x2))
          go_roundw
          case rel => exact ⟨i + 1, j + 1, by omega, by omega, by go_num, by go_num, HMN.out⟩
          case measure => simp [intOf]; omega
        · go_wp2_with (first
            | (go_at_call 60; (with_reducible refine hca.mono ?_); clear hca; rintro e w3 ⟨rfl, hb3⟩; have HMN : Hid (DelMid w w3 lo g n cap i (j + 1) ms pd) := (HM1.out.below hb3).skip HN.out hlt HS.out HPO.out; clear hb3 x0 x1 x2))
          go_roundw
          case rel => exact ⟨i, j + 1, by omega, by omega, rfl, by go_num, HMN.out⟩
          case measure => simp [intOf]; omega
      · obtain ⟨xs, hx1, hx2, _⟩ := HM.out.row
        have hfl : (ms.take j).filter pd = ms.filter pd := by rw [List.take_of_length_le (by rw [HN.out]; omega)]
        rw [hfl] at hx2
        have hxl := hx1.1
        have hlen : (ms.filter pd).length = i := by
          have := congrArg List.length hx2
          rw [mcells_length, List.length_take] at this
          omega
        have hcl := fun c ty => run_clearB (k := i) (m := n - i) (c := c) hx1 (by omega) (by omega) ty
        obtain ⟨ys, hy1, hy2, hy3⟩ := setCells_row (List.replicate ((n - i) * 3) (.int .i64 0)) (i * 3) wr xs hx1
        have HFI : Hid (DelO w (wr.setCells g (i * 3) (List.replicate ((n - i) * 3) (.int .i64 0))) (.returned (.slice (some ⟨g, 0, none⟩) i cap)) lo g cap (ms.filter pd)) := by
          refine ⟨by rw [hlen], ?_, grown_trans HM.out.gr hy3⟩
          rw [hlen]
          have hp := row_prefix hy1 (k := i) (by omega)
          have e : ys.take (i * 3) = mcells (ms.filter pd) := by
            rw [← hx2]
            apply List.ext_getElem?
            intro t
            by_cases ht : t < i * 3
            · rw [List.getElem?_take_of_lt ht, List.getElem?_take_of_lt ht, hy2 t ht]
            · rw [List.getElem?_eq_none (by rw [List.length_take]; omega), List.getElem?_eq_none (by rw [List.length_take]; omega)]
          rw [e] at hp
          exact hp
        have hki : ¬ (j : Int) < (n : Int) := by omega
        have k1 : (i : Int) ≤ (n : Int) := by omega
        have k2 : (i : Int) ≤ (cap : Int) := by omega
        have k3 : ¬ cap = i := by omega
        have k4 : (0 : Int) ≤ (i : Int) := by omega
        clear hx1 hx2 hfl hxl hlen hy1 hy2 hy3 HM
        go_wp2_with (first | (at_builtin; go_must (refine wpList_clear_run (by rfl) _ _ (by rfl) (by rfl) (hcl _ _) ?_)))
        go_ret
        exact HFI.out

end Go.Proofs.Ytgfhnmjpkanikaa
