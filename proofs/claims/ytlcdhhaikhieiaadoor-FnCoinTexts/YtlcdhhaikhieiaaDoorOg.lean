/- The program's line of a coin, and CoinsText. -/
import Derived.Test.YtlcdhhaikhieiaaDoorOf
namespace Go.Proofs.YtlcdhhaikhieiaaDoor
open Go.RowKit Go.Shelf Go.Maps Go.WideMaps Go.Sort
attribute [local go_sem] Oper.semAt_some

theorem join_four (a b c d : List UInt8) : Lib.join [a, b, c, d] [32] = a ++ 32 :: (b ++ 32 :: (c ++ 32 :: d)) := by simp [Lib.join, List.intercalate, List.intersperse]
theorem keepCo {v v' : World} {P : Nat} {c0 c1 c2 c3 c4 c5 c6 c7 : Value} {t : TypeId} (h : v.heap[P]? = some (.cells #[c0, c1, c2, c3, c4, c5, c6, c7] t (0, 0))) (hb : Below v.heap.size v v') :
    (v'.cell? ⟨P, 0, none⟩ = some c0 ∧ v'.cell? ⟨P, 1, none⟩ = some c1 ∧ v'.cell? ⟨P, 2, none⟩ = some c2 ∧ v'.cell? ⟨P, 3, none⟩ = some c3 ∧ v'.cell? ⟨P, 4, none⟩ = some c4 ∧ v'.cell? ⟨P, 5, none⟩ = some c5) ∧ Hid (v'.heap[P]? = some (.cells #[c0, c1, c2, c3, c4, c5, c6, c7] t (0, 0))) := by
  have h2 := (keepb h hb).out
  obtain ⟨⟨a0, a1, a2, a3, a4, a5, _⟩, _⟩ := cells8 h2
  exact ⟨⟨a0, a1, a2, a3, a4, a5⟩, h2⟩

set_option maxRecDepth 20000 in
set_option maxHeartbeats 2000000 in
theorem coinText_any (p q v x y h : Int) (m : Bool) (l : List Int) (ka : Option Addr) (kc : Nat) (w : World) (hok : CoOk ⟨p, q, v, l, x, y, h, m⟩) (hI : IAt w ka l.length l) (hTb : Tb w) :
    Calls Tryd.prog 24 #[.agg #[.int .i64 p, .int .i64 q, .int .i64 v, .slice ka l.length kc, .int .i64 x, .int .i64 y, .int .i64 h, .bool m]] w fun e w' => e = .returned (.string (str (coinT ⟨p, q, v, l, x, y, h, m⟩))) ∧ Below w.heap.size w w' := by
  have hou := hok.out
  have e1 : 1 ≤ p ∧ p ≤ 60 := hok.p
  have e2 : 0 ≤ q ∧ q ≤ 3 := hok.q
  have e3 : 1 ≤ v ∧ v ≤ 1000000 := hok.v
  have hr : ruleR l x y = 0 := hok.r
  have hll : l.length ≤ 1048576 := by have : l.length ≤ 3 := hou.n.2; omega
  obtain ⟨d1, hd1⟩ : ∃ z, z = refT (p, q) := ⟨_, rfl⟩
  obtain ⟨d2, hd2⟩ : ∃ z, z = dec v := ⟨_, rfl⟩
  obtain ⟨d3, hd3⟩ : ∃ z, z = rtxR l x y := ⟨_, rfl⟩
  have hl0 := coinT_len hok
  have HCT : Hid (coinT ⟨p, q, v, l, x, y, h, m⟩ = Lib.join [[99, 111, 105, 110], d1, d2, d3] [32]) := by
    show _ = _
    rw [join_four, hd1, hd2, hd3]
    simp [coinT, refT]
  have hrt : rtR l x y = (0, d3) := by unfold rtR; rw [if_neg (by simp [hr]), hd3]
  have hA : ∀ W, Below w.heap.size w W → Calls Tryd.prog 44 #[.agg #[.int .i64 p, .int .i64 q]] W fun e w' => e = .returned (.string (str d1)) ∧ Below W.heap.size W w' := fun W hW => by rw [hd1]; exact writeRef_any p q W (by omega) (by omega) (hTb.below hW (Nat.le_refl _))
  have hB : ∀ W, Below w.heap.size w W → Calls Tryd.prog 45 #[.int .i64 v] W fun e w' => e = .returned (.string (str d2)) ∧ Below W.heap.size W w' := fun W hW => by rw [hd2]; exact writeNumber_big (by omega) (by omega) W (hTb.below hW (Nat.le_refl _))
  have hC : ∀ W, Below w.heap.size w W → Calls Tryd.prog 46 #[.agg #[.slice ka l.length kc, .int .i64 x, .int .i64 y]] W fun e w' => e = .returned (.agg #[.int .i64 0, .string (str d3)]) ∧ Below W.heap.size W w' := fun W hW => by
    have := iRuleText_any l.length kc ka l x y W hll (hI.below hW (Nat.le_refl _)) (hTb.below hW (Nat.le_refl _))
    rw [hrt] at this
    exact this
  obtain ⟨tx, htx⟩ : ∃ z, z = str (coinT ⟨p, q, v, l, x, y, h, m⟩) := ⟨_, rfl⟩
  have hD : ∀ W : World, Calls Tryd.prog 43 #[.slice (some ⟨W.heap.size, 0, none⟩) 4 4, .string ⟨#[32]⟩] (W.alloc (.cells #[.string ⟨#[99, 111, 105, 110]⟩, .string (str d1), .string (str d2), .string (str d3)] 9)) fun e w' => e = .returned (.string tx) ∧ Below W.heap.size W w' := fun W => by
    have hrow : (W.alloc (.cells #[.string ⟨#[99, 111, 105, 110]⟩, .string (str d1), .string (str d2), .string (str d3)] 9)).ownsRow W.heap.size 9 1 (.slice (some ⟨W.heap.size, 0, none⟩) 4 4) 4 (texts [[99, 111, 105, 110], d1, d2, d3]) := ⟨rfl, .inr ⟨W.heap.size, 4, _, rfl, Nat.le_refl _, heap_alloc_new _ _, Nat.le_refl _, by unfold maxLen; omega, rfl, rfl⟩⟩
    have := join_any 32 _ _ hrow rfl (by simp) (by rw [← HCT.out]; omega)
    rw [← HCT.out, ← htx] at this
    exact this.mono fun e w' ⟨h1, h2⟩ => ⟨h1, (below_box _).trans (h2.mono (by simp))⟩
  rw [← htx]
  have hfd := fieldText (str d3)
  have hbx : Below w.heap.size w (w.alloc (.cells #[.int .i64 p, .int .i64 q, .int .i64 v, .slice ka l.length kc, .int .i64 x, .int .i64 y, .int .i64 h, .bool m] 49)) := below_box _
  obtain ⟨W0, hW0⟩ : ∃ W0, W0 = w.alloc (.cells #[.int .i64 p, .int .i64 q, .int .i64 v, .slice ka l.length kc, .int .i64 x, .int .i64 y, .int .i64 h, .bool m] 49) := ⟨_, rfl⟩
  have hP0 := heap_alloc_new w (.cells #[.int .i64 p, .int .i64 q, .int .i64 v, .slice ka l.length kc, .int .i64 x, .int .i64 y, .int .i64 h, .bool m] 49)
  rw [← hW0] at hbx hP0
  obtain ⟨⟨p0, p1, p2, p3, p4, p5⟩, HP0⟩ := keepCo hP0 (Below.refl _ _)
  have HB0 : Hid (Below w.heap.size w W0) := hbx
  clear hd1 hd2 hd3 hrt hok hou hr hI hTb hbx hP0 e1 e2 e3 hl0 htx hll HCT
  go_enter Tryd.func24, Tryd.ntmps24
  go_wp2
  rw [← hW0]
  clear hW0
  go_region_held3 (fun w' => w'.cell? ⟨w.heap.size, 0, none⟩ = some (.int .i64 p) ∧ w'.cell? ⟨w.heap.size, 1, none⟩ = some (.int .i64 q) ∧ w'.cell? ⟨w.heap.size, 2, none⟩ = some (.int .i64 v) ∧ w'.cell? ⟨w.heap.size, 3, none⟩ = some (.slice ka l.length kc) ∧ w'.cell? ⟨w.heap.size, 4, none⟩ = some (.int .i64 x) ∧ w'.cell? ⟨w.heap.size, 5, none⟩ = some (.int .i64 y)) (first | (with_reducible assumption) | go_keep)
    (first
      | (go_at_call 44; (with_reducible refine (hA _ HB0.out.drew).mono ?_); clear hA; rintro e w2 ⟨rfl, hb2⟩; obtain ⟨⟨z0, z1, z2, z3, z4, z5⟩, HP2⟩ := keepCo HP0.out (show Below W0.heap.size W0 w2 from (Below.refl _ _).drew.trans hb2); have HB2 : Hid (Below w.heap.size w w2) := HB0.out.drew.trans (hb2.mono HB0.out.size); clear hb2)
      | (go_at_call 45; (with_reducible refine (hB _ HB2.out).mono ?_); clear hB; rintro e w3 ⟨rfl, hb3⟩; obtain ⟨⟨x0, x1, x2, x3, x4, x5⟩, HP3⟩ := keepCo HP2.out hb3; have HB3 : Hid (Below w.heap.size w w3) := HB2.out.trans (hb3.mono HB2.out.size); clear hb3)
      | (go_at_call 46; (with_reducible refine (hC _ HB3.out).mono ?_); clear hC; rintro e w4 ⟨rfl, hb4⟩; obtain ⟨⟨v0, v1, v2, v3, v4, v5⟩, HP4⟩ := keepCo HP3.out hb4; have HB4 : Hid (Below w.heap.size w w4) := HB3.out.trans (hb4.mono HB3.out.size); clear hb4)
      | (go_at_call 43; (with_reducible refine (hD _).mono ?_); clear hD; rintro e w5 ⟨rfl, hb5⟩; obtain ⟨⟨u0, u1, u2, u3, u4, u5⟩, HP5⟩ := keepCo HP4.out hb5; have HB5 : Hid (Below w.heap.size w w5) := HB4.out.trans (hb5.mono HB4.out.size); clear hb5))
  go_wp2
  go_ret
  exact ⟨rfl, HB5.out⟩

set_option maxRecDepth 20000 in
set_option maxHeartbeats 2000000 in
theorem coinsText_any (n c : Nat) (a : Option Addr) (cs : List Co) (w : World) (hn : n ≤ 40) (hok : ∀ c ∈ cs, CoOk c) (hC : CAt w a n cs) (hTb : Tb w) :
    Calls Tryd.prog 12 #[.slice a n c] w fun e w' => e = .returned (.string (str (coinsT cs))) ∧ Below w.heap.size w w' := by
  have HC : Hid (CAt w a n cs) := hC
  have HN : Hid (cs.length = n) := hC.1
  have HOK : Hid (∀ c ∈ cs, CoOk c) := hok
  have HTB : Hid (Tb w) := hTb
  have hB0 := Bld.fresh w
  have HB0 : Hid (Bld w.heap.size [] (w.alloc (.cells #[.pointer none, .slice none 0 0] 57))) := hB0
  have hb1 : Below w.heap.size w (w.alloc (.cells #[.pointer none, .slice none 0 0] 57)) := below_box _
  obtain ⟨tx, htx⟩ : ∃ t, t = str (coinsT cs) := ⟨_, rfl⟩
  rw [← htx]
  have HTX : Hid (tx = str (coinsT cs)) := htx
  clear hC hok hTb hB0 htx
  go_enter Tryd.func12, Tryd.ntmps12
  go_wp2
  go_loopw [8] (fun i wr => ∃ k : Nat, k ≤ n ∧ i = .int .i64 k ∧ Hid (Bld w.heap.size (coinsT (cs.take k)) wr ∧ Below w.heap.size w wr)) (fun i _ => n - (intOf i).toNat)
  case atStart => exact ⟨0, Nat.zero_le _, rfl, HB0.out, hb1⟩
  case round =>
    obtain ⟨k, hk, rfl, HI⟩ := hrel
    have hbel := HI.out.2
    by_cases hlt : k < n
    · rcases HC.out.2 with h0 | ⟨b, off, e0, l0, d0⟩
      · omega
      subst e0
      obtain ⟨x, hx⟩ : ∃ x, x = cs.getD k C0 := ⟨_, rfl⟩
      have hxm : CoOk x := HOK.out x (by
        rw [hx, List.getD_eq_getElem?_getD, List.getElem?_eq_getElem (by rw [HN.out]; exact hlt)]
        exact List.getElem_mem _)
      have HTK : Hid (coinsT (cs.take (k + 1)) = coinsT (cs.take k) ++ (coinT x ++ [10])) := by
        show _ = _
        rw [take_next2 HN.out hlt hx, coinsT_snoc]; rfl
      have hlen : (coinsT (cs.take k)).length ≤ 201 * n := by
        refine Nat.le_trans (coinsT_len fun y hy => HOK.out y (List.mem_of_mem_take hy)) ?_
        rw [List.length_take]
        exact Nat.mul_le_mul (Nat.le_refl _) (by omega)
      obtain ⟨ct, hct⟩ : ∃ z, z = coinT x := ⟨_, rfl⟩
      have hcl : ct.length ≤ 200 := by rw [hct]; exact coinT_len hxm
      have hcn : ct ≠ [] := by rw [hct]; simp [coinT]
      have hc10 : (10 : UInt8) ∉ ct := by rw [hct]; exact coinT_nl x
      rw [← hct] at HTK
      obtain ⟨ka, kc, c0, c4, c5⟩ := d0 k hlt
      rw [← hx] at c0 c4 c5
      obtain ⟨xp, xq, xv, xl, xx, xy, xh, xm⟩ := x
      obtain ⟨y0, y1, y2, y3, y4, y5, y6, y7⟩ := c0.below hbel l0
      simp only at y0 y1 y2 y3 y4 y5 y6 y7 c4 c5
      have hb2 : Below wr.heap.size wr (wr.alloc (.cells #[.int .i64 xp, .int .i64 xq, .int .i64 xv, .slice ka xl.length kc, .int .i64 xx, .int .i64 xy, .int .i64 xh, .bool xm] 49)) := below_box _
      have hbw := hbel.trans (hb2.mono hbel.size)
      have hT := coinText_any xp xq xv xx xy xh xm xl ka kc (wr.alloc (.cells #[.int .i64 xp, .int .i64 xq, .int .i64 xv, .slice ka xl.length kc, .int .i64 xx, .int .i64 xy, .int .i64 xh, .bool xm] 49)) hxm (c5.below hbw (Nat.le_refl _)) (HTB.out.below hbw (Nat.le_refl _))
      rw [← hct] at hT
      have HBW : Hid (Below wr.heap.size wr (wr.alloc (.cells #[.int .i64 xp, .int .i64 xq, .int .i64 xv, .slice ka xl.length kc, .int .i64 xx, .int .i64 xy, .int .i64 xh, .bool xm] 49))) := hb2
      have hki : (k : Int) < (n : Int) := by omega
      have HE : Hid (∀ W, Calls Tryd.prog 23 #[.string (str ct)] W fun e w' => e = .returned (.string (str (ct ++ [10]))) ∧ w' = W) := fun W => endLine_add ct W hcn hc10 (by omega)
      obtain ⟨c1, hc1⟩ : ∃ z, z = str (ct ++ [10]) := ⟨_, rfl⟩
      have HW : Hid (∀ W, Below wr.heap.size wr W → Calls Tryd.prog 22 #[.pointer (some ⟨w.heap.size, 0, none⟩), .string c1] W fun e w' => e = .returned (.tuple #[.int .i64 ((ct ++ [10]).length : Nat), .nilIface]) ∧ Hid (Bld w.heap.size (coinsT (cs.take k) ++ (ct ++ [10])) w' ∧ Below w.heap.size W w')) := fun W hW => by
        rw [hc1]
        exact bWrite_any w.heap.size (coinsT (cs.take k)) (ct ++ [10]) W (HI.out.1.below hW) (by simp; omega)
      rw [← hc1] at HE
      clear d0 c0 c4 c5 hx hb2 hbw hct hxm hcn hc10 hlen hc1
      go_wp2_with (first
        | (go_at_call 24; (with_reducible refine hT.mono ?_); clear hT; rintro e w2 ⟨rfl, hb2⟩; have HB2 : Hid (Below wr.heap.size wr w2) := HBW.out.trans (hb2.mono HBW.out.size); have hE := HE.out w2; clear hb2)
        | (go_at_call 23; (with_reducible refine hE.mono ?_); clear hE; rintro e w3 ⟨rfl, hw3⟩; have hw4 := hw3.symm; subst hw4; have hq := HW.out w2 HB2.out)
        | (go_at_call 22; (with_reducible refine hq.mono ?_); clear hq; rintro e w5 ⟨rfl, HQ⟩))
      go_roundw
      case rel =>
        refine ⟨k + 1, by omega, by go_num, ?_⟩
        show _ ∧ _
        rw [HTK.out]
        exact ⟨HQ.out.1, hbel.trans ((HB2.out.mono hbel.size).trans HQ.out.2)⟩
      case measure => simp [intOf]; omega
    · have he : coinsT (cs.take k) = coinsT cs := by rw [List.take_of_length_le (by rw [HN.out]; omega)]
      have hS := bString_any w.heap.size (coinsT cs) wr (by rw [← he]; exact HI.out.1)
      rw [← HTX.out] at hS
      clear he
      go_wp2_with (first | (go_at_call 25; (with_reducible refine hS.mono ?_); clear hS; rintro e w2 ⟨rfl, hb2⟩))
      go_ret
      exact ⟨rfl, hbel.trans hb2⟩

set_option maxHeartbeats 1000000 in
theorem iCoinsText_any (n c : Nat) (a : Option Addr) (cs : List Co) (w : World) (hn : n ≤ 1048576) (hk : ∀ j, j < n → (cs.getD j C0).l.length ≤ 1048576) (hC : CAt w a n cs) (hTb : Tb w) :
    Calls Tryd.prog 6 #[.slice a n c] w fun e w' => e = .returned (.agg #[.int .i64 (ctR cs).1, .string (str (ctR cs).2)]) ∧ Below w.heap.size w w' := by
  have hb1 : Below w.heap.size w (w.alloc (.cells #[.int .i64 0, .string ⟨#[]⟩] 27)) := below_box _
  have hh1 : (w.alloc (.cells #[.int .i64 0, .string ⟨#[]⟩] 27)).heap[w.heap.size]? = some (.cells #[.int .i64 0, .string ⟨#[]⟩] 27 (0, 0)) := heap_alloc_new _ _
  have hF := iCoinsFault_any n c a cs (w.alloc (.cells #[.int .i64 0, .string ⟨#[]⟩] 27)) hn hk (hC.below hb1 (Nat.le_refl _))
  have HC : Hid (CAt w a n cs) := hC
  have HN : Hid (cs.length = n) := hC.1
  clear hC
  by_cases h0 : coinsR cs = 0
  · have hr : ctR cs = (0, coinsT cs) := by unfold ctR; rw [if_neg (by simp [h0])]
    rw [hr]
    rw [h0] at hF
    obtain ⟨h1, h2⟩ := coins_okE h0
    have hn4 : n ≤ 40 := by rw [← HN.out]; exact h1
    have hT : ∀ W, Below w.heap.size w W → Calls Tryd.prog 12 #[.slice a n c] W fun e w' => e = .returned (.string (str (coinsT cs))) ∧ Below W.heap.size W w' := fun W hW => coinsText_any n c a cs W hn4 h2 (HC.out.below hW (Nat.le_refl _)) (hTb.below hW (Nat.le_refl _))
    obtain ⟨tx, htx⟩ : ∃ t, t = str (coinsT cs) := ⟨_, rfl⟩
    rw [← htx] at hT ⊢
    have HT : Hid (∀ W, Below w.heap.size w W → Calls Tryd.prog 12 #[.slice a n c] W fun e w' => e = .returned (.string tx) ∧ Below W.heap.size W w') := hT
    clear h0 h1 h2 hr htx hT hk
    go_enter Tryd.func6, Tryd.ntmps6
    go_wp2_with (first
      | (go_at_call 11; (with_reducible refine hF.mono ?_); clear hF; rintro e w2 ⟨rfl, hb2⟩; have HR2 := keepb hh1 hb2; have HB2 : Hid (Below w.heap.size w w2) := hb1.trans (hb2.mono hb1.size); have hq := HT.out w2 HB2.out; clear hb2)
      | (go_at_call 12; (with_reducible refine hq.mono ?_); clear hq; rintro e w3 ⟨rfl, hb3⟩; have HB3 : Hid (Below w.heap.size w w3) := HB2.out.trans (hb3.mono HB2.out.size); obtain ⟨q0, q1, q2, q3, HR3⟩ := res_cells HR2.out hb3 (lt_of_block HR2.out); clear hb3))
    obtain ⟨s0, s1, s2⟩ := two_set HR3.out (.int .i64 0) (.string tx)
    refine bodyPost_ret (v := .agg #[.int .i64 0, .string tx]) (by simp [results, Tryd.results6, go_sem, s1, s2]) rfl ?_
    exact ⟨rfl, (HB3.out.setCell (p := ⟨w.heap.size, 0, none⟩) (Nat.le_refl _) _).setCell (p := ⟨w.heap.size, 1, none⟩) (Nat.le_refl _) _⟩
  · have hr : ctR cs = (coinsR cs, []) := by unfold ctR; rw [if_pos h0]
    rw [hr]
    obtain ⟨cd, hcd⟩ : ∃ x, x = coinsR cs := ⟨_, rfl⟩
    rw [← hcd] at hF h0 ⊢
    have hne : (cd == 0) = false := by simp [h0]
    clear hr hcd hk
    go_enter Tryd.func6, Tryd.ntmps6
    go_wp2_with (first
      | (go_at_call 11; (with_reducible refine hF.mono ?_); clear hF; rintro e w2 ⟨rfl, hb2⟩; have HB2 : Hid (Below w.heap.size w w2) := hb1.trans (hb2.mono hb1.size); obtain ⟨q0, q1, q2, q3, HR3⟩ := res_cells hh1 hb2 (by simp); clear hb2))
    obtain ⟨s0, s1, s2⟩ := two_set HR3.out (.int .i64 cd) (.string ⟨#[]⟩)
    refine bodyPost_ret (v := .agg #[.int .i64 cd, .string ⟨#[]⟩]) (by simp [results, Tryd.results6, go_sem, s1, s2]) rfl ?_
    exact ⟨rfl, (HB2.out.setCell (p := ⟨w.heap.size, 0, none⟩) (Nat.le_refl _) _).setCell (p := ⟨w.heap.size, 1, none⟩) (Nat.le_refl _) _⟩

end Go.Proofs.YtlcdhhaikhieiaaDoor
