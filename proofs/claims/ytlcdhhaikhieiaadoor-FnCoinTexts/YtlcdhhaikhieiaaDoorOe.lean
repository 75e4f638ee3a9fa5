/- The text of coins: what it comes to, and the specification's. -/
import Derived.Test.YtlcdhhaikhieiaaDoorX3
import Derived.Test.YtlcdhhaikhieiaaDoorX2
import Derived.Lib.QuietBelow
import Derived.BigQuiet
namespace Go.Proofs.YtlcdhhaikhieiaaDoor
open Go.RowKit Go.Shelf Go.Maps Go.WideMaps Go.Sort

theorem str_isE (a b : List UInt8) : ((str a).toList == b) = decide (a = b) := by
  have e : (str a).toList = a := by simp [str]
  rw [e]
  by_cases h : a = b
  · rw [h]; simp
  · rw [decide_eq_false h]; exact beq_false_of_ne h

/-- A coin's line, without its end. -/
def coinT (c : Co) : List UInt8 := [99, 111, 105, 110, 32] ++ dec c.p ++ (58 :: dec c.q) ++ (32 :: dec c.v) ++ (32 :: rtxR c.l c.x c.y)
def coinLT (c : Co) : List UInt8 := coinT c ++ [10]
def coinsT (cs : List Co) : List UInt8 := cs.flatMap coinLT
theorem coinsT_snoc (cs : List Co) (c : Co) : coinsT (cs ++ [c]) = coinsT cs ++ coinLT c := by simp [coinsT]

/-- What a coin without a fault is. -/
structure CoOk (c : Co) : Prop where
  p : 1 ≤ c.p ∧ c.p ≤ 60
  q : 0 ≤ c.q ∧ c.q ≤ 3
  v : 1 ≤ c.v ∧ c.v ≤ 1000000
  r : ruleR c.l c.x c.y = 0
theorem coOk {c : Co} (h : coinR c = 0) : CoOk c := by
  unfold coinR at h
  split at h
  · cases h
  rename_i h1
  have h2 : refB (c.p, c.q) = true := by
    cases e : refB (c.p, c.q)
    · exact absurd (.inl e) h1
    · rfl
  unfold outR at h
  split at h
  · cases h
  rename_i h3
  have h4 : inB c.v 1 1000000 = true := by simpa using h3
  rw [inB_true] at h4
  unfold refB at h2
  rw [Bool.and_eq_true, inB_true, inB_true] at h2
  exact ⟨h2.1, h2.2, h4, h⟩
theorem CoOk.out {c : Co} (h : CoOk c) : OutOk ⟨c.v, c.l, c.x, c.y⟩ := by
  obtain ⟨a1, a2, a3, a4⟩ := ruleR_zero rfl h.r
  exact ⟨⟨by have := h.v.1; show 0 ≤ c.v; omega, h.v.2⟩, a1, ⟨by show 0 ≤ c.x; omega, by show c.x ≤ 999; omega⟩, a3, fun j hj => by
    have hm : c.l.getD j 0 ∈ c.l := by
      have hj' : j < c.l.length := hj
      rw [List.getD_eq_getElem?_getD, List.getElem?_eq_getElem hj']
      exact List.getElem_mem hj'
    have := a4 _ hm
    exact ⟨by show 0 ≤ c.l.getD j 0; omega, this.2⟩⟩
theorem coinT_len {c : Co} (h : CoOk c) : (coinT c).length ≤ 200 := by
  have h1 := dec_len (k := c.p) (by have := h.p.2; omega)
  have h2 := dec_len (k := c.q) (by have := h.q.2; omega)
  have h3 := dec_big h.v.2
  have h4 := rtx_len h.out
  simp only at h4
  simp [coinT]; omega
theorem coinsT_len {cs : List Co} (h : ∀ c ∈ cs, CoOk c) : (coinsT cs).length ≤ 201 * cs.length := by
  induction cs with
  | nil => simp [coinsT]
  | cons c t ih =>
    have h1 := coinT_len (h c (List.mem_cons_self ..))
    have h2 := ih fun x hx => h x (List.mem_cons_of_mem _ hx)
    simp only [coinsT, List.flatMap_cons, List.length_append, List.length_cons] at h2 ⊢
    simp only [coinLT, List.length_append, List.length_cons, List.length_nil]
    omega

set_option maxRecDepth 20000 in
set_option maxHeartbeats 4000000 in
theorem l16Coins_any (n c : Nat) (a : Option Addr) (cs : List Co) (w : World) (hn : n ≤ 40) (hok : ∀ c ∈ cs, CoOk c) (hC : CAt w a n cs) :
    Calls Tryd.prog 14 #[.slice a n c] w fun e w' => e = .returned (.string (str (coinsT cs))) ∧ Below w.heap.size w w' := by
  have hmix : Tryd.prog.follows .mixedOrders = true := by kernel_rfl
  have HC : Hid (CAt w a n cs) := hC
  have HN : Hid (cs.length = n) := hC.1
  have HOK : Hid (∀ c ∈ cs, CoOk c) := hok
  have hss : ∀ z : List UInt8, (str z).size = z.length := fun _ => rfl
  have happ : ∀ z r : List UInt8, str z ++ str r = str (z ++ r) := str_append
  have hc10 : ∀ z : List UInt8, str z ++ ⟨#[10]⟩ = str (z ++ [10]) := fun z => str_append z _
  have hc32 : ∀ z : List UInt8, str z ++ ⟨#[32]⟩ = str (z ++ [32]) := fun z => str_append z _
  have hc58 : ∀ z : List UInt8, str z ++ ⟨#[58]⟩ = str (z ++ [58]) := fun z => str_append z _
  have hcc : ∀ z : List UInt8, str z ++ ⟨#[99, 111, 105, 110, 32]⟩ = str (z ++ [99, 111, 105, 110, 32]) := fun z => str_append z _
  clear hC hok
  go_enter Tryd.func14, Tryd.ntmps14
  go_wp2
  go_loopw [3, 4] (fun v i wr => ∃ k : Nat, k ≤ n ∧ i = .int .i64 k ∧ ∃ o : List UInt8, v = .string (str o) ∧ o.length ≤ 201 * k ∧ Hid (o = coinsT (cs.take k)) ∧ Below w.heap.size w wr) (fun _ i _ => n - (intOf i).toNat)
  case atStart => exact ⟨0, Nat.zero_le _, rfl, [], rfl, by simp, by simp [coinsT, Hid], Below.refl _ _⟩
  case round =>
    obtain ⟨k, hk, rfl, o, rfl, hol, HO, hbel⟩ := hrel
    by_cases hlt : k < n
    · rcases HC.out.2 with h0 | ⟨b, off, e0, l0, d0⟩
      · omega
      subst e0
      obtain ⟨x, hx⟩ : ∃ x, x = cs.getD k C0 := ⟨_, rfl⟩
      have hxm : CoOk x := HOK.out x (by
        rw [hx, List.getD_eq_getElem?_getD, List.getElem?_eq_getElem (by rw [HN.out]; exact hlt)]
        exact List.getElem_mem _)
      have HTK : Hid (cs.take (k + 1) = cs.take k ++ [x]) := take_next2 HN.out hlt hx
      obtain ⟨ka, kc, c0, c4, c5⟩ := d0 k hlt
      rw [← hx] at c0 c4 c5
      have HXT : Hid (coinLT x = [99, 111, 105, 110, 32] ++ dec x.p ++ (58 :: dec x.q) ++ (32 :: dec x.v) ++ (32 :: rtxR x.l x.x x.y) ++ [10]) := rfl
      obtain ⟨xp, xq, xv, xl, xx, xy, xh, xm⟩ := x
      obtain ⟨y0, y1, y2, y3, y4, y5, y6, y7⟩ := c0.below hbel l0
      simp only at y0 y1 y2 y3 y4 y5 y6 y7 c4 c5
      have z0 := cell_regrown y0
      have z1 := cell_regrown y1
      have z2 := cell_regrown y2
      have z3 := cell_regrown y3
      have z4 := cell_regrown y4
      have z5 := cell_regrown y5
      have hI := c5.below hbel (Nat.le_refl _)
      obtain ⟨dp, hdp⟩ : ∃ z, z = dec xp := ⟨_, rfl⟩
      obtain ⟨dq, hdq⟩ : ∃ z, z = dec xq := ⟨_, rfl⟩
      obtain ⟨dv, hdv⟩ : ∃ z, z = dec xv := ⟨_, rfl⟩
      obtain ⟨dr, hdr⟩ : ∃ z, z = rtxR xl xx xy := ⟨_, rfl⟩
      have e1 : xp ≤ 60 := hxm.p.2
      have e2 : xq ≤ 3 := hxm.q.2
      have f1 : 1 ≤ xp := hxm.p.1
      have f2 : 0 ≤ xq := hxm.q.1
      have f3 : 1 ≤ xv := hxm.v.1
      have f4 : xv ≤ 1000000 := hxm.v.2
      have hl1 : dp.length ≤ 10 := by rw [hdp]; exact dec_len (by omega)
      have hl2 : dq.length ≤ 10 := by rw [hdq]; exact dec_len (by omega)
      have hl3 : dv.length ≤ 10 := by rw [hdv]; exact dec_big hxm.v.2
      have hl4 : dr.length ≤ 100 := by rw [hdr]; exact rtx_len hxm.out
      have A1 : ∀ dd os, Calls Tryd.prog 30 #[.int .i64 xp] (grow (redrawn wr dd) os) fun e w'' => e = .returned (.string (str dp)) ∧ ∃ p : Regrown, w'' = grow (redrawn wr p.d) p.os := fun dd os => Calls.regrown_of (by rw [hdp]; exact digits_int (by omega) (by omega) _)
      have A2 : ∀ dd os, Calls Tryd.prog 30 #[.int .i64 xq] (grow (redrawn wr dd) os) fun e w'' => e = .returned (.string (str dq)) ∧ ∃ p : Regrown, w'' = grow (redrawn wr p.d) p.os := fun dd os => Calls.regrown_of (by rw [hdq]; exact digits_int (by omega) (by omega) _)
      have A3 : ∀ dd os, Calls Tryd.prog 30 #[.int .i64 xv] (grow (redrawn wr dd) os) fun e w'' => e = .returned (.string (str dv)) ∧ ∃ p : Regrown, w'' = grow (redrawn wr p.d) p.os := fun dd os => Calls.regrown_of (by rw [hdv]; exact digits_big (by omega) (by omega) _)
      have hou := hxm.out
      have A4 : ∀ dd os, Calls Tryd.prog 31 #[.pointer (some ⟨b, off + k * 8 + 3, none⟩)] (grow (redrawn wr dd) os) fun e w'' => e = .returned (.string (str dr)) ∧ ∃ p : Regrown, w'' = grow (redrawn wr p.d) p.os := fun dd os => Calls.regrown_of (by
        rw [hdr]
        exact l2TextAt_any b (off + k * 8 + 3) xl.length kc ka xl xx xy _ hou.n.1 hou.n.2 hou.x hou.y hou.k (hI.below (below_regrown wr dd os) (Nat.le_refl _)) (Nat.lt_of_lt_of_le l0 (hbel.trans ((below_regrown wr dd os).mono hbel.size)).size) (z3 dd os) (z4 dd os) (z5 dd os))
      have HL : Hid (dp = dec xp ∧ dq = dec xq ∧ dv = dec xv ∧ dr = rtxR xl xx xy) := ⟨hdp, hdq, hdv, hdr⟩
      have hki : (k : Int) < (n : Int) := by omega
      clear d0 c0 c4 c5 hx hI y0 y1 y2 y3 y4 y5 y6 y7 z3 z4 z5 hdp hdq hdv hdr hxm hou e1 e2 f1 f2 f3 f4
      have g1 : ¬ 9223372036854775807 < o.length + 5 := by omega
      have g2 : ¬ 9223372036854775807 < o.length + 5 + dp.length := by omega
      have g3 : ¬ 9223372036854775807 < o.length + 5 + dp.length + 1 := by omega
      have g4 : ¬ 9223372036854775807 < o.length + 5 + dp.length + 1 + dq.length := by omega
      have g5 : ¬ 9223372036854775807 < o.length + 5 + dp.length + 1 + dq.length + 1 := by omega
      have g6 : ¬ 9223372036854775807 < o.length + 5 + dp.length + 1 + dq.length + 1 + dv.length := by omega
      have g7 : ¬ 9223372036854775807 < o.length + 5 + dp.length + 1 + dq.length + 1 + dv.length + 1 := by omega
      have g8 : ¬ 9223372036854775807 < o.length + 5 + dp.length + 1 + dq.length + 1 + dv.length + 1 + dr.length := by omega
      have g9 : ¬ 9223372036854775807 < o.length + 5 + dp.length + 1 + dq.length + 1 + dv.length + 1 + dr.length + 1 := by omega
      go_wp2_with fail
      refine wp_region_quiet_below hmix (by kernel_rfl) ?_
      repeat (go_big_quiet_step (first | (with_reducible exact A1 _ _) | (with_reducible exact A2 _ _) | (with_reducible exact A3 _ _) | (with_reducible exact A4 _ _)))
      refine wpQuiet_nil ?_
      intro V hw'
      have hbV : Below wr.heap.size wr V := by
        obtain ⟨⟨dz, osz⟩, hw''⟩ := hw'
        rw [hw'']; exact below_regrown wr dz osz
      clear hw' A1 A2 A3 A4
      go_wp2
      go_roundw
      case rel =>
        refine ⟨k + 1, by omega, by go_num, _, rfl, by simp; omega, ?_, hbel.trans (hbV.mono hbel.size)⟩
        show _ = _
        rw [HTK.out, coinsT_snoc, ← HO.out, HXT.out]
        obtain ⟨q1, q2, q3, q4⟩ := HL.out
        rw [q1, q2, q3, q4]
        simp
      case measure => simp [intOf]; omega
    · have he : o = coinsT cs := by rw [HO.out, List.take_of_length_le (by rw [HN.out]; omega)]
      go_wp2
      go_ret
      subst he
      exact ⟨rfl, hbel⟩

/-- What CoinsText tells: the code, or the text. -/
def ctR (cs : List Co) : Int × List UInt8 := if coinsR cs ≠ 0 then (coinsR cs, []) else (0, coinsT cs)
theorem coins_okE {cs : List Co} (h : coinsR cs = 0) : cs.length ≤ 40 ∧ ∀ c ∈ cs, CoOk c := ⟨(coins_rise h).1, fun c hc => coOk ((coins_rise h).2.1 c hc)⟩

set_option maxHeartbeats 1000000 in
theorem sCoinsText_any (n c : Nat) (a : Option Addr) (cs : List Co) (w : World) (hn : n ≤ 1048576) (hk : ∀ j, j < n → (cs.getD j C0).l.length ≤ 1048576) (hC : CAt w a n cs) :
    Calls Tryd.prog 7 #[.slice a n c] w fun e w' => e = .returned (.agg #[.int .i64 (ctR cs).1, .string (str (ctR cs).2)]) ∧ Below w.heap.size w w' := by
  have hb1 : Below w.heap.size w (w.alloc (.cells #[.int .i64 0, .string ⟨#[]⟩] 27)) := below_box _
  have hh1 : (w.alloc (.cells #[.int .i64 0, .string ⟨#[]⟩] 27)).heap[w.heap.size]? = some (.cells #[.int .i64 0, .string ⟨#[]⟩] 27 (0, 0)) := heap_alloc_new _ _
  have hF := l4Fault_any n c a cs (w.alloc (.cells #[.int .i64 0, .string ⟨#[]⟩] 27)) hn hk (hC.below hb1 (Nat.le_refl _))
  have HC : Hid (CAt w a n cs) := hC
  have HN : Hid (cs.length = n) := hC.1
  clear hC
  by_cases h0 : coinsR cs = 0
  · have hr : ctR cs = (0, coinsT cs) := by unfold ctR; rw [if_neg (by simp [h0])]
    rw [hr]
    rw [h0] at hF
    obtain ⟨h1, h2⟩ := coins_okE h0
    have hn4 : n ≤ 40 := by rw [← HN.out]; exact h1
    have hT : ∀ W, Below w.heap.size w W → Calls Tryd.prog 14 #[.slice a n c] W fun e w' => e = .returned (.string (str (coinsT cs))) ∧ Below W.heap.size W w' := fun W hW => l16Coins_any n c a cs W hn4 h2 (HC.out.below hW (Nat.le_refl _))
    obtain ⟨tx, htx⟩ : ∃ t, t = str (coinsT cs) := ⟨_, rfl⟩
    rw [← htx] at hT ⊢
    have HT : Hid (∀ W, Below w.heap.size w W → Calls Tryd.prog 14 #[.slice a n c] W fun e w' => e = .returned (.string tx) ∧ Below W.heap.size W w') := hT
    clear h0 h1 h2 hr htx hT hk
    go_enter Tryd.func7, Tryd.ntmps7
    go_wp2_with (first
      | (go_at_call 13; (with_reducible refine hF.mono ?_); clear hF; rintro e w2 ⟨rfl, hb2⟩; have HR2 := keepb hh1 hb2; have HB2 : Hid (Below w.heap.size w w2) := hb1.trans (hb2.mono hb1.size); have hq := HT.out w2 HB2.out; clear hb2)
      | (go_at_call 14; (with_reducible refine hq.mono ?_); clear hq; rintro e w3 ⟨rfl, hb3⟩; have HB3 : Hid (Below w.heap.size w w3) := HB2.out.trans (hb3.mono HB2.out.size); obtain ⟨q0, q1, q2, q3, HR3⟩ := res_cells HR2.out hb3 (lt_of_block HR2.out); clear hb3))
    obtain ⟨s0, s1, s2⟩ := two_set HR3.out (.int .i64 0) (.string tx)
    refine bodyPost_ret (v := .agg #[.int .i64 0, .string tx]) (by simp [results, Tryd.results7, go_sem, s1, s2]) rfl ?_
    exact ⟨rfl, (HB3.out.setCell (p := ⟨w.heap.size, 0, none⟩) (Nat.le_refl _) _).setCell (p := ⟨w.heap.size, 1, none⟩) (Nat.le_refl _) _⟩
  · have hr : ctR cs = (coinsR cs, []) := by unfold ctR; rw [if_pos h0]
    rw [hr]
    obtain ⟨cd, hcd⟩ : ∃ x, x = coinsR cs := ⟨_, rfl⟩
    rw [← hcd] at hF h0 ⊢
    have hne : (cd == 0) = false := by simp [h0]
    clear hr hcd hk
    go_enter Tryd.func7, Tryd.ntmps7
    go_wp2_with (first
      | (go_at_call 13; (with_reducible refine hF.mono ?_); clear hF; rintro e w2 ⟨rfl, hb2⟩; have HB2 : Hid (Below w.heap.size w w2) := hb1.trans (hb2.mono hb1.size); obtain ⟨q0, q1, q2, q3, HR3⟩ := res_cells hh1 hb2 (by simp); clear hb2))
    obtain ⟨s0, s1, s2⟩ := two_set HR3.out (.int .i64 cd) (.string ⟨#[]⟩)
    refine bodyPost_ret (v := .agg #[.int .i64 cd, .string ⟨#[]⟩]) (by simp [results, Tryd.results7, go_sem, s1, s2]) rfl ?_
    exact ⟨rfl, (HB2.out.setCell (p := ⟨w.heap.size, 0, none⟩) (Nat.le_refl _) _).setCell (p := ⟨w.heap.size, 1, none⟩) (Nat.le_refl _) _⟩

end Go.Proofs.YtlcdhhaikhieiaaDoor
