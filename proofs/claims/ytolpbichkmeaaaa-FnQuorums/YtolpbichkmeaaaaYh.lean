/- The law on quorums that are chosen: of those that there are, so many, and the same whatever the order. -/
import Derived.Test.YtolpbichkmeaaaaYg
import Derived.Lib.QuietBelow
namespace Go.Proofs.Ytolpbichkmeaaaa
open Go.RowKit Go.Maps Go.WideMaps Go.Sort

theorem cells3Q {v : World} {b : Nat} {c0 c1 c2 : Value} {t : TypeId} (h : v.heap[b]? = some (.cells #[c0, c1, c2] t (0, 0))) : v.cell? ⟨b, 0, none⟩ = some c0 ∧ v.cell? ⟨b, 1, none⟩ = some c1 ∧ v.cell? ⟨b, 2, none⟩ = some c2 :=
  ⟨by unfold World.cell?; rw [h]; rfl, by unfold World.cell?; rw [h]; rfl, by unfold World.cell?; rw [h]; rfl⟩
theorem keepC {v v' : World} {p : Addr} {x : Value} (h : v.cell? p = some x) (hb : Below v.heap.size v v') : v'.cell? p = some x := (hb.cell (World.block_lt_of_cell? _ _ h)).trans h
/-- A list under way, in memory of its own. -/
structure Un (U W : World) (g c j : Nat) (xs : List Int) : Prop where
  r : W.ownsRow U.heap.size 2 1 (.slice (some ⟨g, 0, none⟩) j c) j (ints xs)
  bel : Below U.heap.size U W
theorem Un.put {U W : World} {g c j : Nat} {xs : List Int} (h : Un U W g c j xs) {g' c' : Nat} {w3 : World} {x : Int} {o : Obj} (ho : w3.ownsRow U.heap.size 2 1 (.slice (some ⟨g', 0, none⟩) (j + 1) c') (j + 1) (ints xs ++ [.int .i64 x])) (hg : (W.alloc o).grownBy w3 (Value.ownBlock (.slice (some ⟨g, 0, none⟩) j c))) : Un U w3 g' c' (j + 1) (xs ++ [x]) := by
  have hga := (h.r.lt g rfl)
  refine ⟨by rw [show ints (xs ++ [x]) = ints xs ++ [.int .i64 x] by simp [ints]]; exact ho, (h.bel.trans ((below_box o).mono h.bel.size)).grown hg (by have := h.bel.size; simp; omega) (fun k hk => by have e2 : some g = some k := hk; cases e2; exact hga.1)⟩
theorem revTake {ms : List Int} {n k p : Nat} (hn : ms.length = n) (h : k + p + 1 = n) : ms.reverse.take (k + 1) = ms.reverse.take k ++ [ms.getD p 0] := by
  have e : ms.reverse.getD k 0 = ms.getD p 0 := by
    unfold List.getD
    rw [List.getElem?_reverse (by omega), show ms.length - 1 - k = p by omega]
  exact take_next (n := n) (by rw [List.length_reverse]; exact hn) (by omega) e.symm
theorem getD_memQ {l : List Int} {t : Nat} (h : t < l.length) : l.getD t 0 ∈ l := by
  unfold List.getD
  rw [List.getElem?_eq_getElem h]
  exact List.getElem_mem h

set_option maxRecDepth 20000 in
set_option maxHeartbeats 16000000 in
theorem lawQuorums (cn cc : Nat) (ca : Option Addr) (l : List Int) (w : World) (hB : BAt w ca cn l) :
    Calls Try.prog 3 #[.slice ca cn cc] w fun e w' => e = .returned (.bool true) ∧ Below w.heap.size w w' := by
  have hbg := lwBigQ_any cn cc ca w
  by_cases hbig : 1048576 < cn
  · rw [decide_eq_true (by omega)] at hbg
    clear hB
    go_enter Try.func3, Try.ntmps3
    go_wp2_with (go_at_call 5; (with_reducible refine hbg.mono ?_); clear hbg; rintro e w' ⟨rfl, hw⟩; have hw2 := hw.symm; subst hw2)
    go_ret
    exact ⟨rfl, Below.refl _ _⟩
  have hcn : cn ≤ 1048576 := by omega
  rw [decide_eq_false (by omega)] at hbg
  have hdr := drawCh_any cn cc ca l w hcn hB
  have hmix : Try.prog.follows .mixedOrders = true := by kernel_rfl
  clear hB hbig
  go_enter Try.func3, Try.ntmps3
  go_wp2_with (first
    | (go_at_call 5; (with_reducible refine hbg.mono ?_); clear hbg; rintro e w' ⟨rfl, hw⟩; have hw2 := hw.symm; subst hw2)
    | (go_at_call 6; (with_reducible refine hdr.mono ?_); clear hdr; rintro e v1 ⟨a, n, c, ms, s, k, rfl, hn9, HI, HB1⟩))
  have HN : Hid (ms.length = n) := HI.out.2.2.1
  have hnl : n ≤ maxLen := by unfold maxLen; omega
  have hch := iChooseQuorum_any a n c ms s k v1 hnl HI.out.2.2
  by_cases h0 : chR ms s k = 0
  rotate_left
  · have ecr : choR ms s k = (chR ms s k, [], 0) := by unfold choR; rw [if_pos h0]
    obtain ⟨cd, hcd⟩ : ∃ q, q = chR ms s k := ⟨_, rfl⟩
    rw [← hcd] at ecr h0
    have hcb : (cd != 0) = true := by simpa using h0
    have hsp := fun (W : World) (hW : Below v1.heap.size v1 W) => sChooseQuorum_any a n c ms s k W hnl HI.out.1 (HI.out.2.2.below hW (Nat.le_refl _))
    simp only [ecr] at hch hsp
    refine hch.mono ?_
    clear hch ecr hcd
    rintro e v2 ⟨hb2, ra, rc, rfl, _⟩
    obtain ⟨rn, hrn⟩ : ∃ q, q = ([] : List Int).length := ⟨_, rfl⟩
    rw [← hrn]
    obtain ⟨W2, hW2⟩ : ∃ W, W = v2.alloc (.cells #[.int .i64 cd, .slice ra rn rc, .int .i64 0] 30) := ⟨_, rfl⟩
    have hbx : Below v2.heap.size v2 W2 := by rw [hW2]; exact below_box _
    have c0 : (v2.alloc (.cells #[.int .i64 cd, .slice ra rn rc, .int .i64 0] 30)).cell? ⟨v2.heap.size, 0, none⟩ = some (.int .i64 cd) := (cells3Q (heap_alloc_new _ _)).1
    have HB2 : Hid (Below v1.heap.size v1 W2) := hb2.trans (hbx.mono hb2.size)
    have hsq : ∀ j, Calls Try.prog 8 #[.slice a n c, .int .i64 s, .int .i64 k] (W2.drewN j) fun e w' => ∃ xa xn xc, e = .returned (.agg #[.int .i64 cd, .slice xa xn xc, .int .i64 0]) ∧ Below W2.heap.size W2 w' := fun j =>
      (hsp (W2.drewN j) (HB2.out.trans ((Joins.below_draws _ W2 j).mono HB2.out.size))).mono fun _ _ ⟨h1, xa, xc, h2, _⟩ => ⟨xa, _, xc, h2, (Joins.below_draws _ W2 j).trans h1⟩
    have hfl : ∀ (xa : Option Addr) (xn xc : Nat) (v : World), (Instr.field 30 (.agg #[.int .i64 cd, .slice xa xn xc, .int .i64 0]) 0).run Try.prog v = .ok (.int .i64 cd) v := fun _ _ _ v => by kernel_rfl
    clear hsp hbx hb2 hrn
    go_wp2
    rw [← hW2] at c0 ⊢
    clear hW2
    go_region_held3 (fun w' => w'.cell? ⟨v2.heap.size, 0, none⟩ = some (.int .i64 cd)) (go_keep)
      (first
        | (go_at_call 8; refine (hsq 1).mono ?_; rintro e w8 ⟨xa, xn, xc, rfl, hb8⟩; have z0 := keepC c0 hb8))
    all_goals (try go_wp2)
    all_goals go_ret
    all_goals exact ⟨by simp, (HB1.out.trans (HB2.out.mono HB1.out.size)).trans (hb8.mono (by have := HB1.out.size; have := HB2.out.size; omega))⟩
  obtain ⟨m, rfl, hm1, hm8, hmn, hn8, hnd, hak, ecr⟩ := ch_data h0
  rw [HN.out] at hn8
  obtain ⟨R, hR⟩ : ∃ q, q = choL ms s m := ⟨_, rfl⟩
  obtain ⟨nd, hndv⟩ : ∃ q : Int, q = (2 * (m : Int)) / 3 + 1 := ⟨_, rfl⟩
  rw [← hR, ← hndv] at ecr
  have hRl : R.length = m := by rw [hR]; exact choL_len hmn
  have HF : Hid (quoR R nd = 0) := by show _ = _; rw [hR, hndv]; exact cho_fault hm1 hm8 hmn hnd hak
  have HND : Hid (needR (m : Int) = (0, nd)) := by show _ = _; unfold needR; rw [if_pos (inB_true.2 ⟨by omega, by omega⟩), Int.tdiv_eq_ediv_of_nonneg (by omega), hndv]
  have HCH : Hid ((∀ y ∈ R, hasK ms y = true) ∧ ∀ x ∈ ms, hasK R x = false → ∀ y ∈ R, ¬ rankR x s < rankR y s) := by
    show _ ∧ _
    rw [hR]
    exact ⟨fun y hy => cho_in hnd hmn hy, fun x hx hn y hy => cho_rank hnd hmn hx hn hy⟩
  have hsp := fun (W : World) (hW : Below v1.heap.size v1 W) => sChooseQuorum_any a n c ms s (m : Int) W hnl HI.out.1 (HI.out.2.2.below hW (Nat.le_refl _))
  have hbk := fun (W : World) (g d : Nat) (hW : IAt W (some ⟨g, 0, none⟩) n ms.reverse) => iChooseQuorum_any (some ⟨g, 0, none⟩) n d ms.reverse s (m : Int) W hnl hW
  simp only [choR_rev, ecr, OutQ, hRl] at hch hsp hbk
  rw [HN.out] at hmn
  have HSP : Hid (∀ W : World, Below v1.heap.size v1 W → Calls Try.prog 8 #[.slice a n c, .int .i64 s, .int .i64 (m : Int)] W fun e w' => Below W.heap.size W w' ∧ ∃ xa xc, e = .returned (.agg #[.int .i64 0, .slice xa m xc, .int .i64 nd])) := fun W hW => (hsp W hW).mono fun _ _ ⟨h1, xa, xc, h2, _⟩ => ⟨h1, xa, xc, h2⟩
  have HBK : Hid (∀ (W : World) (g d : Nat), IAt W (some ⟨g, 0, none⟩) n ms.reverse → Calls Try.prog 7 #[.slice (some ⟨g, 0, none⟩) n d, .int .i64 s, .int .i64 (m : Int)] W fun e w' => Below W.heap.size W w' ∧ ∃ xa xc, e = .returned (.agg #[.int .i64 0, .slice xa m xc, .int .i64 nd]) ∧ w'.ownsRow W.heap.size 2 1 (.slice xa m xc) m (ints R)) := hbk
  have HRL : Hid (R.length = m) := hRl
  refine hch.mono ?_
  clear hch ecr hR hndv hak hnd h0 hsp hbk hRl
  rintro e v2 ⟨hb2, ra, rc, rfl, ho2⟩
  obtain ⟨W2, hW2⟩ : ∃ W, W = v2.alloc (.cells #[.int .i64 0, .slice ra m rc, .int .i64 nd] 30) := ⟨_, rfl⟩
  have hbx : Below v2.heap.size v2 W2 := by rw [hW2]; exact below_box _
  have c0 : (v2.alloc (.cells #[.int .i64 0, .slice ra m rc, .int .i64 nd] 30)).cell? ⟨v2.heap.size, 0, none⟩ = some (.int .i64 0) := (cells3Q (heap_alloc_new _ _)).1
  have HX2 : Hid (W2.heap[v2.heap.size]? = some (.cells #[.int .i64 0, .slice ra m rc, .int .i64 nd] 30 (0, 0))) := by show _ = _; rw [hW2]; exact heap_alloc_new _ _
  have HV2 : Hid (Below v1.heap.size v1 W2) := hb2.trans (hbx.mono hb2.size)
  have HB2 : Hid (Below w.heap.size w W2) := HB1.out.trans (HV2.out.mono HB1.out.size)
  have hI2 : IAt W2 a n ms := HI.out.2.2.below HV2.out (Nat.le_refl _)
  have hR2 : IAt W2 ra m R := (IAt.owned ho2 HRL.out).below hbx (Nat.le_refl _)
  rcases hI2.2 with h0 | ⟨b0, off, e0, l0, d0⟩
  · omega
  subst e0
  rcases hR2.2 with h0 | ⟨b1, o1, e1, l1, d1⟩
  · omega
  subst e1
  have HI2 : Hid (IAt W2 (some ⟨b0, off, none⟩) n ms ∧ IAt W2 (some ⟨b1, o1, none⟩) m R) := ⟨hI2, hR2⟩
  have HC2 : Hid ((∀ j, j < n → W2.cell? ⟨b0, off + j, none⟩ = some (.int .i64 (ms.getD j 0))) ∧ ∀ j, j < m → W2.cell? ⟨b1, o1 + j, none⟩ = some (.int .i64 (R.getD j 0))) := ⟨d0, d1⟩
  obtain ⟨P, hP⟩ : ∃ P : Nat, n = P + 1 := ⟨n - 1, by omega⟩
  have hw0 : IntKind.i64.wrap ((n : Int) - 1) = (P : Int) := by rw [IntWalk.i64_in _ (by omega)]; omega
  have HP : Hid (n = P + 1) := hP
  have hsz : W2.heap.size = v2.heap.size + 1 := by rw [hW2]; simp
  have HT0 : Hid (Un W2 (W2.alloc (.cells #[] 2)) (v2.heap.size + 1) 0 0 (ms.reverse.take 0)) := ⟨own_empty (by rw [← hsz]; exact heap_alloc_new _ _) (by omega), below_box _⟩
  obtain ⟨Rb, hRb⟩ : ∃ q, q = v2.heap.size := ⟨_, rfl⟩
  clear hI2 hR2 d0 d1 l0 l1 hb2 ho2 hbx hP hsz
  go_wp2
  rw [← hW2]
  rw [← hRb] at HT0 HX2 ⊢
  clear hW2 hRb c0
  go_loopw [7, 8] (fun bk i wr => ∃ (k g ec : Nat), k ≤ n ∧ bk = .slice (some ⟨g, 0, none⟩) k ec ∧ ((∃ p : Nat, k + p + 1 = n ∧ i = .int .i64 (p : Int)) ∨ (k = n ∧ i = .int .i64 (-1))) ∧ Hid (Un W2 wr g ec k (ms.reverse.take k))) (fun _ i _ => (intOf i + 1).toNat)
  case atStart => exact ⟨0, Rb + 1, 0, Nat.zero_le _, rfl, .inl ⟨P, by have := HP.out; omega, by first | rfl | go_num⟩, HT0⟩
  case round =>
    clear HT0 hw0
    obtain ⟨k, g, ec, hk, rfl, hi, HT⟩ := hrel
    rcases hi with ⟨p, hp, rfl⟩ | ⟨hkn, rfl⟩
    · obtain ⟨x, hx⟩ : ∃ y, y = ms.getD p 0 := ⟨_, rfl⟩
      have g1 := keepC (HC2.out.1 p (by omega)) HT.out.bel
      rw [← hx] at g1
      have HX : Hid (x = ms.getD p 0) := hx
      have hpi : (0 : Int) ≤ (p : Int) := by omega
      have hpn : (p : Int) < (n : Int) := by omega
      obtain ⟨i0, hi0, hz0, hz1, hz2⟩ := info_parts Try.infoI64
      have hs2 := HT.out.bel.size
      clear hx
      go_wp2_with (first
        | (at_builtin; have HTq := HT; clear HT; go_must (refine wpList_append_lies _ (by rfl) _ _ 24 (by rfl) W2.heap.size 2 i0 (.int .i64 0) 1 8 Try.underlying24 hi0 hz0 hz1 hz2 rfl (by omega) (.slice (some ⟨g, 0, none⟩) k ec) k (ints (ms.reverse.take k)) (by rfl) (HTq.out.r.alloc _) ⟨wr.heap.size, 0, none⟩ 1 1 [.int .i64 x] (by rfl) (by rfl) (news1 (heap_alloc_at _ _ _ (by simp))) one1 (by omega) (by unfold maxLen; omega) (by omega) (by simp; omega) (wr.heap.size + 1) (by simp) ?_); intro g3 k3 w3 ho3 hg3 hat3 hlt3; have HT3 : Hid (Un W2 w3 g3 k3 (k + 1) (ms.reverse.take (k + 1))) := (by show Un _ _ _ _ _ _; rw [revTake HN.out hp, ← HX.out]; exact HTq.out.put ho3 hg3); clear ho3 hg3 hat3 hlt3 HTq))
      go_roundw
      case rel => exact ⟨k + 1, g3, k3, by omega, rfl, (by
        rcases p with _ | p'
        · exact .inr ⟨by omega, by first | rfl | go_num⟩
        · exact .inl ⟨p', by omega, by first | rfl | go_num⟩), HT3⟩
      case measure => simp [intOf]
    · have hnk : n = k := hkn.symm
      subst hnk
      have HTn : Hid (Un W2 wr g ec n ms.reverse) := by
        show Un _ _ _ _ _ _
        have := HT.out
        rw [List.take_of_length_le (by rw [List.length_reverse, HN.out]; exact Nat.le_refl _)] at this
        exact this
      have hbk := HBK.out wr g ec (IAt.owned HTn.out.r (by rw [List.length_reverse]; exact HN.out))
      clear HT
      go_wp2_with (go_at_call 7; (with_reducible refine hbk.mono ?_); clear hbk; rintro e v5 ⟨hb5, xa, xc, rfl, ho5⟩; have hbx : Below v5.heap.size v5 (v5.alloc (.cells #[.int .i64 0, .slice xa m xc, .int .i64 nd] 30)) := below_box _; have HX5 : Hid ((v5.alloc (.cells #[.int .i64 0, .slice xa m xc, .int .i64 nd] 30)).heap[v5.heap.size]? = some (.cells #[.int .i64 0, .slice xa m xc, .int .i64 nd] 30 (0, 0))) := heap_alloc_new _ _; have HJ5 : Hid (IAt (v5.alloc (.cells #[.int .i64 0, .slice xa m xc, .int .i64 nd] 30)) xa m R) := (IAt.owned ho5 HRL.out).below hbx (Nat.le_refl _); have HW5 : Hid (Below W2.heap.size W2 (v5.alloc (.cells #[.int .i64 0, .slice xa m xc, .int .i64 nd] 30))) := (HTn.out.bel.trans (hb5.mono HTn.out.bel.size)).trans (hbx.mono (by have := HTn.out.bel.size; have := hb5.size; omega)); clear hb5 ho5 hbx)
      obtain ⟨W5, hW5⟩ : ∃ W, W = v5.alloc (.cells #[.int .i64 0, .slice xa m xc, .int .i64 nd] 30) := ⟨_, rfl⟩
      obtain ⟨Xb, hXb⟩ : ∃ q, q = v5.heap.size := ⟨_, rfl⟩
      rw [← hW5] at HX5 HJ5 HW5 ⊢
      rw [← hXb] at HX5 ⊢
      clear hW5 hXb HTn
      go_loopw [10] (fun i wr => ∃ t : Nat, t ≤ m ∧ i = .int .i64 (t : Int) ∧ Hid (Below W5.heap.size W5 wr)) (fun i _ => m - (intOf i).toNat)
      case atStart => exact ⟨0, Nat.zero_le _, rfl, Below.refl _ _⟩
      case round =>
        obtain ⟨t, ht, rfl, HW⟩ := hrel
        obtain ⟨V, rfl⟩ : ∃ V, V = wr := ⟨_, rfl⟩
        have HWV : Hid (Below W2.heap.size W2 V) := HW5.out.trans (HW.out.mono HW5.out.size)
        obtain ⟨_, q1, q2⟩ := cells3Q (keepb HX2.out HWV.out).out
        by_cases hlt : t < m
        · obtain ⟨y, hy⟩ : ∃ y, y = R.getD t 0 := ⟨_, rfl⟩
          have HY : Hid (y ∈ R) := by show _ ∈ _; rw [hy]; exact getD_memQ (by rw [HRL.out]; exact hlt)
          have x0 := keepC (HC2.out.2 t hlt) HWV.out
          rw [← hy] at x0
          have hhs := lwHasQ_any (some ⟨b0, off, none⟩) n c ms y V hnl (HI2.out.1.below HWV.out (Nat.le_refl _))
          rw [HCH.out.1 y HY.out] at hhs
          have hti : (t : Int) < (m : Int) := by omega
          clear hy
          go_wp2_with (go_at_call 9; (with_reducible refine hhs.mono ?_); clear hhs; rintro e w' ⟨rfl, hw⟩; have hw2 := hw.symm; subst hw2)
          go_loopw [11] (fun j wq => ∃ u : Nat, u ≤ n ∧ j = .int .i64 (u : Int) ∧ Hid (Below V.heap.size V wq)) (fun j _ => n - (intOf j).toNat)
          case atStart => exact ⟨0, Nat.zero_le _, rfl, Below.refl _ _⟩
          case round =>
            obtain ⟨u, hu, rfl, HU⟩ := hrel
            by_cases hlu : u < n
            · obtain ⟨z, hz⟩ : ∃ z, z = ms.getD u 0 := ⟨_, rfl⟩
              have HZ : Hid (z ∈ ms) := by show _ ∈ _; rw [hz]; exact getD_memQ (by rw [HN.out]; exact hlu)
              have g1 := keepC (keepC (HC2.out.1 u hlu) HWV.out) HU.out
              rw [← hz] at g1
              have g2 := keepC x0 HU.out
              have g3 := keepC q1 HU.out
              obtain ⟨kk, hkk⟩ : ∃ b, b = hasK R z := ⟨_, rfl⟩
              obtain ⟨rz, hrz⟩ : ∃ b, b = rankR z s := ⟨_, rfl⟩
              obtain ⟨ry, hry⟩ : ∃ b, b = rankR y s := ⟨_, rfl⟩
              have HIr : Hid (IAt wr (some ⟨b1, o1, none⟩) m R) := (HI2.out.2.below HWV.out (Nat.le_refl _)).below HU.out (Nat.le_refl _)
              have hml : m ≤ maxLen := by unfold maxLen; omega
              have r1 : ∀ dd os, Calls Try.prog 9 #[.slice (some ⟨b1, o1, none⟩) m rc, .int .i64 z] (grow (redrawn wr dd) os) fun e w'' => e = .returned (.bool kk) ∧ ∃ p : Regrown, w'' = grow (redrawn wr p.d) p.os := fun dd os => Calls.regrown_of (by
                have := lwHasQ_any (some ⟨b1, o1, none⟩) m rc R z (grow (redrawn wr dd) os) hml (HIr.out.below (below_regrown wr dd os) (Nat.le_refl _))
                rw [← hkk] at this
                exact this.mono fun _ _ ⟨h1, h2⟩ => ⟨h1, by rw [h2]; exact Below.refl _ _⟩)
              have r2 : ∀ dd os, Calls Try.prog 10 #[.int .i64 z, .int .i64 s] (grow (redrawn wr dd) os) fun e w'' => e = .returned (.int .i64 rz) ∧ ∃ p : Regrown, w'' = grow (redrawn wr p.d) p.os := fun dd os => Calls.regrown_of (by
                have := iRankOf_any z s (grow (redrawn wr dd) os)
                rw [← hrz] at this
                exact this.mono fun _ _ ⟨h1, h2⟩ => ⟨h1, by rw [h2]; exact Below.refl _ _⟩)
              have r3 : ∀ dd os, Calls Try.prog 10 #[.int .i64 y, .int .i64 s] (grow (redrawn wr dd) os) fun e w'' => e = .returned (.int .i64 ry) ∧ ∃ p : Regrown, w'' = grow (redrawn wr p.d) p.os := fun dd os => Calls.regrown_of (by
                have := iRankOf_any y s (grow (redrawn wr dd) os)
                rw [← hry] at this
                exact this.mono fun _ _ ⟨h1, h2⟩ => ⟨h1, by rw [h2]; exact Below.refl _ _⟩)
              have HLS : Hid (kk = false → ¬ rz < ry) := fun e => by have := HCH.out.2 z HZ.out (by rw [← hkk]; exact e) y HY.out; rw [hrz, hry]; omega
              have a1 := cell_regrown g1
              have a2 := cell_regrown g2
              have a3 := cell_regrown g3
              have hui : (u : Int) < (n : Int) := by omega
              clear hz hkk hrz hry HIr
              cases kk
              · have hls : decide (rz < ry) = false := decide_eq_false (HLS.out rfl)
                go_wp2
                refine wp_region_quiet_below hmix (by kernel_rfl) ?_
                repeat (go_big_quiet_step (first | (with_reducible exact r1 _ _) | (with_reducible exact r2 _ _) | (with_reducible exact r3 _ _)))
                refine wpQuiet_nil ?_
                intro _ hw'
                obtain ⟨⟨dq, osq⟩, hw''⟩ := hw'
                subst hw''
                have HU2 : Hid (Below V.heap.size V (grow (redrawn wr dq) osq)) := HU.out.trans ((below_regrown wr dq osq).mono HU.out.size)
                go_wp2
                go_roundw
                case rel => exact ⟨u + 1, by omega, by go_num, HU2⟩
                case measure => simp [intOf]; omega
              · go_wp2
                refine wp_region_quiet_below hmix (by kernel_rfl) ?_
                repeat (go_big_quiet_step (first | (with_reducible exact r1 _ _) | (with_reducible exact r2 _ _) | (with_reducible exact r3 _ _)))
                refine wpQuiet_nil ?_
                intro _ hw'
                obtain ⟨⟨dq, osq⟩, hw''⟩ := hw'
                subst hw''
                have HU2 : Hid (Below V.heap.size V (grow (redrawn wr dq) osq)) := HU.out.trans ((below_regrown wr dq osq).mono HU.out.size)
                go_wp2
                go_roundw
                case rel => exact ⟨u + 1, by omega, by go_num, HU2⟩
                case measure => simp [intOf]; omega
            · have hui : ¬ (u : Int) < (n : Int) := by omega
              go_wp2
              go_roundw
              case rel => exact ⟨t + 1, by omega, by go_num, HW.out.trans (HU.out.mono HW.out.size)⟩
              case measure => simp [intOf]; omega
        · have hti : ¬ (t : Int) < (m : Int) := by omega
          obtain ⟨_, p1, _⟩ := cells3Q (keepb HX5.out HW.out).out
          have HIV : Hid (IAt V (some ⟨b1, o1, none⟩) m R ∧ IAt V xa m R) := ⟨HI2.out.2.below HWV.out (Nat.le_refl _), HJ5.out.below HW.out (Nat.le_refl _)⟩
          have hml : m ≤ 1048576 := by omega
          have HFL : Hid (∀ j, Calls Try.prog 11 #[.agg #[.slice (some ⟨b1, o1, none⟩) m rc, .int .i64 nd]] (V.drewN j) fun e w' => e = .returned (.int .i64 0) ∧ Below V.heap.size V w') := fun j => by
            have := iQuorumFault_any m rc (some ⟨b1, o1, none⟩) R nd (V.drewN j) hml (HIV.out.1.below (Joins.below_draws _ V j) (Nat.le_refl _))
            rw [HF.out] at this
            exact this.mono fun _ _ ⟨h1, h2⟩ => ⟨h1, (Joins.below_draws _ V j).trans h2⟩
          have HNO : Hid (∀ W : World, Calls Try.prog 12 #[.int .i64 (m : Int)] W fun e w' => e = .returned (.agg #[.int .i64 0, .int .i64 nd]) ∧ Below W.heap.size W w') := fun W => by
            have := iNeedOf_any (m : Int) W
            rw [HND.out] at this
            exact this
          have f1 : ∀ (xa : Option Addr) (xc : Nat) (v : World), (Instr.field 30 (.agg #[.int .i64 0, .slice xa m xc, .int .i64 nd]) 1).run Try.prog v = .ok (.agg #[.slice xa m xc, .int .i64 nd]) v := fun _ _ v => by kernel_rfl
          have f2 : ∀ (xa : Option Addr) (xc : Nat) (v : World), (Instr.field 28 (.agg #[.slice xa m xc, .int .i64 nd]) 1).run Try.prog v = .ok (.int .i64 nd) v := fun _ _ v => by kernel_rfl
          have f3 : ∀ (v : World), (Instr.field 36 (.agg #[.int .i64 0, .int .i64 nd]) 1).run Try.prog v = .ok (.int .i64 nd) v := fun v => by kernel_rfl
          go_wp2
          go_region_held3 (fun w' => w'.cell? ⟨Rb, 1, none⟩ = some (.slice (some ⟨b1, o1, none⟩) m rc) ∧ w'.cell? ⟨Rb, 2, none⟩ = some (.int .i64 nd) ∧ w'.cell? ⟨Xb, 1, none⟩ = some (.slice xa m xc)) (go_keep)
            (first
              | (go_at_call 11; refine (HFL.out 1).mono ?_; rintro e w6 ⟨rfl, hb6⟩; have y1 := keepC q1 hb6; have y2 := keepC q2 hb6; have y3 := keepC p1 hb6)
              | (go_at_call 12; refine (HNO.out _).mono ?_; rintro e w7 ⟨rfl, hb7⟩; have z1 := keepC y1 hb7; have z2 := keepC y2 hb7; have z3 := keepC y3 hb7; have HV7 : Hid (Below V.heap.size V w7) := hb6.trans (hb7.mono hb6.size))
              | (go_at_call 13; refine (lwNumsQ_any xa (some ⟨b1, o1, none⟩) m xc rc R _ hml (HIV.out.2.below HV7.out (Nat.le_refl _)) (HIV.out.1.below HV7.out (Nat.le_refl _))).mono ?_; rintro e w8 ⟨rfl, hb8⟩; have x1 := keepC z1 hb8; have x2 := keepC z2 hb8; have x3 := keepC z3 hb8; have HV8 : Hid (Below V.heap.size V w8) := HV7.out.trans (hb8.mono HV7.out.size))
              | (go_at_call 8; refine (HSP.out _ ((HV2.out.trans (HWV.out.mono HV2.out.size)).trans (HV8.out.mono (Nat.le_trans HV2.out.size HWV.out.size)))).mono ?_; rintro e w9 ⟨hb9, ya, yc, rfl⟩; have u1 := keepC x1 hb9; have u2 := keepC x2 hb9; have u3 := keepC x3 hb9; have HV9 : Hid (Below V.heap.size V w9) := HV8.out.trans (hb9.mono HV8.out.size)))
          all_goals (try go_wp2)
          all_goals go_ret
          all_goals exact ⟨by simp, (HB2.out.trans (HWV.out.mono HB2.out.size)).trans (HV9.out.mono (Nat.le_trans HB2.out.size HWV.out.size))⟩

end Go.Proofs.Ytolpbichkmeaaaa
