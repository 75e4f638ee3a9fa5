/- The specification's choice: who is ahead, and who is chosen. -/
import Derived.Test.YtolpbichkmeaaaaXl
import Derived.Test.YtolpbichkmeaaaaLOwnedBy
import Derived.Test.YtolpbichkmeaaaaCp
import Derived.Lib.QuietBelow
namespace Go.Proofs.Ytolpbichkmeaaaa
open Go.RowKit Go.Maps Go.WideMaps Go.Sort

theorem l10Ahead_any (a b s : Int) (w : World) : Calls Try.prog 58 #[.int .i64 a, .int .i64 b, .int .i64 s] w fun e w' => e = .returned (.bool (ahB s a b)) ∧ w' = w := by
  unfold ahB
  obtain ⟨x, hx⟩ : ∃ p, p = rankR a s := ⟨_, rfl⟩
  obtain ⟨y, hy⟩ : ∃ p, p = rankR b s := ⟨_, rfl⟩
  have k1 : ∀ v, Calls Try.prog 64 #[.int .i64 a, .int .i64 s] v fun e w' => e = .returned (.int .i64 x) ∧ w' = v := fun v => by rw [hx]; exact sRankOf_any _ _ v
  have k2 : ∀ v, Calls Try.prog 64 #[.int .i64 b, .int .i64 s] v fun e w' => e = .returned (.int .i64 y) ∧ w' = v := fun v => by rw [hy]; exact sRankOf_any _ _ v
  rw [← hx, ← hy]
  clear hx hy
  by_cases h1 : x < y
  · rw [decide_eq_true (.inl h1)]
    go_enter Try.func58, Try.ntmps58
    go_wp2_with (go_at_call 64; (first | (with_reducible refine (k1 _).mono ?_) | (with_reducible refine (k2 _).mono ?_)); rintro e w' ⟨rfl, hw⟩; have hw2 := hw.symm; subst hw2)
    go_ret
    exact ⟨rfl, rfl⟩
  by_cases h2 : x = y
  · by_cases h3 : a < b
    · rw [decide_eq_true (.inr ⟨h2, h3⟩)]
      have e : (x == y) = true := by simp [h2]
      clear h2
      go_enter Try.func58, Try.ntmps58
      go_wp2_with (go_at_call 64; (first | (with_reducible refine (k1 _).mono ?_) | (with_reducible refine (k2 _).mono ?_)); rintro e w' ⟨rfl, hw⟩; have hw2 := hw.symm; subst hw2)
      go_ret
      exact ⟨rfl, rfl⟩
    · rw [decide_eq_false (by omega)]
      have e : (x == y) = true := by simp [h2]
      clear h2
      go_enter Try.func58, Try.ntmps58
      go_wp2_with (go_at_call 64; (first | (with_reducible refine (k1 _).mono ?_) | (with_reducible refine (k2 _).mono ?_)); rintro e w' ⟨rfl, hw⟩; have hw2 := hw.symm; subst hw2)
      go_ret
      exact ⟨ret_bool (by rw [decide_eq_false (by omega), decide_eq_false (by omega)]; rfl), rfl⟩
  · rw [decide_eq_false (by omega)]
    have e : (x == y) = false := by simp [h2]
    clear h2
    go_enter Try.func58, Try.ntmps58
    go_wp2_with (go_at_call 64; (first | (with_reducible refine (k1 _).mono ?_) | (with_reducible refine (k2 _).mono ?_)); rintro e w' ⟨rfl, hw⟩; have hw2 := hw.symm; subst hw2)
    go_ret
    exact ⟨ret_bool (by rw [decide_eq_false (by omega)]), rfl⟩

theorem cntA_next {s y z : Int} {l : List Int} {n j : Nat} (hn : l.length = n) (hlt : j < n) (hz : z = l.getD j 0) : cntA s (l.take (j + 1)) y = cntA s (l.take j) y + (if ahB s z y = true then 1 else 0) := by
  unfold cntA
  rw [take_next hn hlt hz, List.filter_append, List.length_append]
  have e : (([z] : List Int).filter fun x => ahB s x y).length = if ahB s z y = true then 1 else 0 := by cases h : ahB s z y <;> simp [h]
  rw [e]

theorem chG_put {s m y : Int} {l : List Int} {k : Nat} (h : ¬ m ≤ (cntA s l (l.getD k 0) : Int)) (hy : y = l.getD k 0) : chG s l m (k + 1) = insX (chG s l m k) y := by
  conv => lhs; unfold chG
  rw [if_neg h, hy]

theorem chG_skip {s m : Int} {l : List Int} {k : Nat} (h : m ≤ (cntA s l (l.getD k 0) : Int)) : chG s l m (k + 1) = chG s l m k := by
  conv => lhs; unfold chG
  rw [if_pos h]

/-- Numbers appended to a row of one's own. -/
theorem app_num {V B : World} {k m : Nat} {v : Value} {ys xs : List Value} {a : Addr} (hb : Below B.heap.size B V) (hv : V.ownsRow B.heap.size 2 1 v k ys) (hne : v ≠ .slice none 0 0) (hm : xs.length = m) (hsrc : ∀ j u, xs[j]? = some u → V.cell? (a.add j) = some u) (h1 : ∀ u ∈ xs, u.oneCell' = true) (hk : k + m ≤ 1000) :
    ∃ g c v', (∀ cc, (Builtin.append_ #[24, 24] 24 #[v, .slice (some a) m cc]).run Try.prog V = .ok (.slice (some ⟨g, 0, none⟩) (k + m) c) v') ∧ v'.ownsRow B.heap.size 2 1 (.slice (some ⟨g, 0, none⟩) (k + m) c) (k + m) (ys ++ xs) ∧ Below B.heap.size B v' ∧ V.grownBy v' v.ownBlock := by
  obtain ⟨i0, hi, hz0, hz1, hz2⟩ := info_parts Try.infoI64
  obtain ⟨v', w', hrun, hown', hgrow, hnil⟩ := run_append_own (P := Try.prog) V B.heap.size 24 24 2 i0 (.int .i64 0) 1 8 Try.underlying24 hi hz0 hz1 hz2 rfl (by decide) v k ys hv a m 0 xs (by rw [hm]; omega) hsrc h1 (by unfold maxLen; omega) (by omega) hb.size
  rcases id hown'.2 with ⟨e1, _⟩ | ⟨g, cap, cur, e1, _⟩
  · exact absurd (hnil.1 e1).1 hne
  · subst e1
    exact ⟨g, cap, w', fun _ => hrun, hown', hb.grown hgrow hb.size (fun j hj => (hv.lt j hj).1), hgrow⟩
theorem blk_twoQ {w3 : World} (o o' : Obj) : (((w3.alloc o).alloc o').drew).heap[w3.heap.size]? = some o ∧ (((w3.alloc o).alloc o').drew).heap[w3.heap.size + 1]? = some o' := by
  refine ⟨?_, ?_⟩
  · exact ((below_box (w := w3.alloc o) o').block _ (by simp)).trans (heap_alloc_new _ _)
  · exact heap_alloc_at (w3.alloc o) o' _ (by simp)
theorem step_append_runQ {P : Program} {w : World} {ops : Array Oper} {o : Oper} {a : Act} {K : Act → World → Prop} {Q : Exit → Act → World → Prop} {E : Prop} (hgd : o.guard = none) (s x : Operand) (t : TypeId)
    (ho : o.op = .call { callee := .builtin .append, args := #[s, x], argTypes := #[t, t] }) {v u v' : Value} {w' : World} (hs : a.eval s = v) (hx : a.eval x = u) (hrun : (Builtin.append_ #[t, t] o.type #[v, u]).run P w = .ok v' w') (h : K (a.put o.dst v') w') :
    if Region.wanted o (yielded ops a.tmps) = true then Oper.wp P o a w K Q else E := by
  have hw : Region.wanted o (yielded ops a.tmps) = true := by simp [Region.wanted, hgd]
  rw [if_pos hw]
  unfold Oper.wp
  simp [execOp, ho, resolve, invoke, builtin, hs, hx, hrun, Result.andThen]
  exact h
theorem ints_one {l : List Int} : ∀ u ∈ ints l, u.oneCell' = true := fun u hu => by simp [ints] at hu; obtain ⟨x, _, rfl⟩ := hu; rfl

/-- The list under way: in new memory. -/
structure OutW (w wr : World) (g cap : Nat) (r : List Int) : Prop where
  row : wr.ownsRow w.heap.size 2 1 (.slice (some ⟨g, 0, none⟩) r.length cap) r.length (ints r)
  bel : Below w.heap.size w wr
theorem OutW.cellQ {w wr : World} {g cap : Nat} {r : List Int} (h : OutW w wr g cap r) {j : Nat} (hj : j < r.length) : wr.cell? ⟨g, j, none⟩ = some (.int .i64 (r.getD j 0)) := by
  rw [h.row.cellAt j (by omega)]
  simp [ints, List.getD, hj]
theorem OutW.step {w wr wq : World} {g cap : Nat} {r : List Int} (h : OutW w wr g cap r) (hb : Below wr.heap.size wr wq) : OutW w wq g cap r :=
  ⟨((own1_new h.row).below hb).t, h.bel.trans (hb.mono h.bel.size)⟩

theorem OutW.src {w V W : World} {g cap : Nat} {r : List Int} (h : OutW w V g cap r) (hb : Below V.heap.size V W) {p q o8 : Nat} (ho8 : o8 = p ∨ p = r.length) : ∀ j u, (((ints r).drop p).take q)[j]? = some u → W.cell? ((⟨g, o8, none⟩ : Addr).add j) = some u := fun j u hj => by
  have hj2 : j < q := by have := (List.getElem?_eq_some_iff.1 hj).1; rw [List.length_take] at this; omega
  have hj3 : j < (ints r).length - p := by have := (List.getElem?_eq_some_iff.1 hj).1; rw [List.length_take, List.length_drop] at this; omega
  have hl : (ints r).length = r.length := by simp [ints]
  have ho : o8 = p := by omega
  rw [List.getElem?_take_of_lt hj2, List.getElem?_drop] at hj
  have ea : (⟨g, o8, none⟩ : Addr).add j = ⟨g, p + j, none⟩ := by simp [Addr.add, ho]
  have hlt : g < V.heap.size := (h.row.lt g rfl).2
  rw [ea, hb.cell (p := ⟨g, p + j, none⟩) hlt, h.row.cellAt (p + j) (by omega)]
  exact hj

theorem ins_one {w V W : World} {g cap X p o : Nat} {R : List Int} (h : OutW w V g cap R) (hR : R.length = o) (hp : p ≤ o) (ho : o ≤ 8) (hb : Below V.heap.size V W) (hX : W.heap[X]? = some (.cells #[] 2 (0, 0))) (hXV : V.heap.size ≤ X) :
    ∃ g1 c1 v1, (∀ cc, (Builtin.append_ #[24, 24] 24 #[.slice (some ⟨X, 0, none⟩) 0 0, .slice (some ⟨g, 0, none⟩) p cc]).run Try.prog W = .ok (.slice (some ⟨g1, 0, none⟩) p c1) v1) ∧ v1.ownsRow V.heap.size 2 1 (.slice (some ⟨g1, 0, none⟩) p c1) p (ints (R.take p)) ∧ Below V.heap.size V v1 ∧ W.grownBy v1 (some X) := by
  have e : (((ints R).drop 0).take p) = ints (R.take p) := by simp [ints]
  obtain ⟨g1, c1, v1, hr, ho1, hb1, hg⟩ := app_num (B := V) (V := W) (k := 0) (m := p) (ys := []) (xs := ints (R.take p)) (a := ⟨g, 0, none⟩) hb (own_empty hX hXV) (by simp) (by simp [ints]; omega) (by rw [← e]; exact h.src hb (.inl rfl)) ints_one (by omega)
  simp only [Nat.zero_add, List.nil_append] at hr ho1
  exact ⟨g1, c1, v1, hr, ho1, hb1, hg⟩

theorem ins_two {w V W : World} {g cap g1 c1 Y p o o8 : Nat} {R : List Int} {y : Int} (h : OutW w V g cap R) (hR : R.length = o) (hp : p ≤ o) (ho : o ≤ 8) (hpn : putN R y = p) (hb : Below V.heap.size V W) (h1 : W.ownsRow V.heap.size 2 1 (.slice (some ⟨g1, 0, none⟩) p c1) p (ints (R.take p))) (hY : W.heap[Y]? = some (.cells #[.int .i64 y] 2 (0, 0))) (ho8 : o8 = p ∨ p = o) :
    ∃ g2 c2 v2 g3 c3 v3, (Builtin.append_ #[24, 24] 24 #[.slice (some ⟨g1, 0, none⟩) p c1, .slice (some ⟨Y, 0, none⟩) 1 1]).run Try.prog W = .ok (.slice (some ⟨g2, 0, none⟩) (p + 1) c2) v2 ∧
      (∀ cc, (Builtin.append_ #[24, 24] 24 #[.slice (some ⟨g2, 0, none⟩) (p + 1) c2, .slice (some ⟨g, o8, none⟩) (o - p) cc]).run Try.prog v2 = .ok (.slice (some ⟨g3, 0, none⟩) (p + 1 + (o - p)) c3) v3) ∧
      Hid ((insX R y).length = p + 1 + (o - p) ∧ OutW w v3 g3 c3 (insX R y)) := by
  obtain ⟨g2, c2, v2, hr2, ho2, hb2, _⟩ := app_num (B := V) (V := W) (k := p) (m := 1) (xs := [.int .i64 y]) (a := ⟨Y, 0, none⟩) hb h1 (by simp) rfl (news1 hY) one1 (by omega)
  have hl : (ints R).length = o := by simp [ints, hR]
  obtain ⟨g3, c3, v3, hr3, ho3, hb3, _⟩ := app_num (B := V) (V := v2) (k := p + 1) (m := o - p) (xs := ((ints R).drop p).take (o - p)) (a := ⟨g, o8, none⟩) hb2 ho2 (by simp) (by rw [List.length_take, List.length_drop, hl]; omega) (h.src hb2 (by rw [hR]; exact ho8)) (fun u hu => ints_one u (List.mem_of_mem_drop (List.mem_of_mem_take hu))) (by omega)
  have hlen : (insX R y).length = p + 1 + (o - p) := by rw [insX_length, hR]; omega
  have e : ints (insX R y) = ints (R.take p) ++ [.int .i64 y] ++ ((ints R).drop p).take (o - p) := by
    have e0 : ((ints R).drop p).take (o - p) = (ints R).drop p := List.take_of_length_le (by rw [List.length_drop, hl]; exact Nat.le_refl _)
    unfold insX
    rw [hpn, e0]
    simp [ints]
  refine ⟨g2, c2, v2, g3, c3, v3, hr2 1, hr3, hlen, ⟨?_, h.bel.trans (hb3.mono h.bel.size)⟩⟩
  rw [hlen, e]
  exact Joins.ownsRow_le ho3 h.bel.size

set_option maxRecDepth 20000 in
set_option maxHeartbeats 8000000 in
theorem l10Choose_any (b off n c : Nat) (l : List Int) (s m : Int) (w : World) (hn8 : n ≤ 8) (hI : IAt w (some ⟨b, off, none⟩) n l) :
    Calls Try.prog 37 #[.slice (some ⟨b, off, none⟩) n c, .int .i64 s, .int .i64 m] w fun e w' => ∃ g k, e = .returned (.slice (some ⟨g, 0, none⟩) (chG s l m n).length k) ∧ OutW w w' g k (chG s l m n) := by
  have HN : Hid (l.length = n) := hI.1
  have HI : Hid (IAt w (some ⟨b, off, none⟩) n l) := hI
  have hmix : Try.prog.follows .mixedOrders = true := by kernel_rfl
  have HO0 : Hid (OutW w (w.alloc (.cells #[] 2)) w.heap.size 0 (chG s l m 0)) := ⟨own_empty (heap_alloc_new _ _) (Nat.le_refl _), below_box _⟩
  clear hI
  go_enter Try.func37, Try.ntmps37
  go_wp2
  go_loopw [7, 8] (fun v i wr => ∃ k : Nat, k ≤ n ∧ i = .int .i64 k ∧ ∃ g cap o, Hid ((chG s l m k).length = o) ∧ v = .slice (some ⟨g, 0, none⟩) o cap ∧ Hid (OutW w wr g cap (chG s l m k))) (fun _ i _ => n - (intOf i).toNat)
  case atStart => exact ⟨0, Nat.zero_le _, rfl, w.heap.size, 0, 0, rfl, rfl, HO0⟩
  case round =>
    clear HO0
    obtain ⟨k, hk, rfl, g, cap, o, HOL, rfl, HO⟩ := hrel
    by_cases hlt : k < n
    · have hlk : (k : Int) < (n : Int) := by omega
      obtain ⟨y, hy⟩ : ∃ y, y = l.getD k 0 := ⟨_, rfl⟩
      have HY : Hid (y = l.getD k 0) := hy
      clear hy
      have ho8 : o ≤ 8 := by rw [← HOL.out]; exact Nat.le_trans (chG_length _ _ _ _) (by omega)
      obtain ⟨V, rfl⟩ : ∃ V, V = wr := ⟨_, rfl⟩
      go_wp2
      go_loopw [9, 10] (fun q j wq => ∃ t : Nat, t ≤ n ∧ j = .int .i64 t ∧ ∃ z : Nat, z ≤ t ∧ q = .int .i64 z ∧ Hid (cntA s (l.take t) y = z) ∧ Hid (Below V.heap.size V wq)) (fun _ j _ => n - (intOf j).toNat)
      case atStart => exact ⟨0, Nat.zero_le _, rfl, 0, Nat.zero_le _, rfl, by show _ = _; simp [cntA], Below.refl _ _⟩
      case round =>
        obtain ⟨t, ht, rfl, z, hz, rfl, HZ, HBq⟩ := hrel
        have HOq : Hid (OutW w wr g cap (chG s l m k)) := HO.out.step HBq.out
        rcases HI.out.2 with h0 | ⟨b', off', e0, l0, d0⟩
        · omega
        cases e0
        have hc1 := (HOq.out.bel.cell (p := ⟨b, off + k, none⟩) l0).trans (d0 k hlt)
        rw [← HY.out] at hc1
        by_cases hlt2 : t < n
        · obtain ⟨x, hx⟩ : ∃ x, x = l.getD t 0 := ⟨_, rfl⟩
          have hc2 := (HOq.out.bel.cell (p := ⟨b, off + t, none⟩) l0).trans (d0 t hlt2)
          rw [← hx] at hc2
          have HX : Hid (x = l.getD t 0) := hx
          obtain ⟨kb, hkb⟩ : ∃ z, z = ahB s x y := ⟨_, rfl⟩
          have cA : ∀ dd os, Calls Try.prog 58 #[.int .i64 x, .int .i64 y, .int .i64 s] (grow (redrawn wr dd) os) fun e w'' => e = .returned (.bool kb) ∧ ∃ p : Regrown, w'' = grow (redrawn wr p.d) p.os := fun dd os => Calls.regrown_of (by
            have := l10Ahead_any x y s (grow (redrawn wr dd) os)
            rw [← hkb] at this
            exact this.mono fun _ _ ⟨h1, h2⟩ => ⟨h1, by rw [h2]; exact Below.refl _ _⟩)
          have HKB : Hid (kb = ahB s x y) := hkb
          have a1 := cell_regrown hc1
          have a2 := cell_regrown hc2
          have hlt2 : (t : Int) < (n : Int) := by omega
          have hwr : IntKind.i64.wrap ((z : Int) + 1) = (z : Int) + 1 := IntWalk.i64_in _ (by omega)
          have HNX : Hid (cntA s (l.take (t + 1)) y = z + (if kb = true then 1 else 0)) := by show _ = _; rw [cntA_next HN.out (by omega) HX.out, HZ.out, HKB.out]
          clear hx hkb d0 hc1 hc2
          go_wp2
          refine wp_region_quiet_below hmix (by kernel_rfl) ?_
          repeat (go_big_quiet_step (first | exact cA _ _))
          refine wpQuiet_nil ?_
          intro _ hw'
          obtain ⟨⟨dq, osq⟩, hw''⟩ := hw'
          subst hw''
          have HBn : Hid (Below V.heap.size V (grow (redrawn wr dq) osq)) := HBq.out.trans ((below_regrown wr dq osq).mono HBq.out.size)
          clear a1 a2 cA
          cases kb
          · go_wp2
            go_roundw
            case rel => exact ⟨t + 1, by omega, by go_num, z, by omega, rfl, by show _ = _; simpa using HNX.out, HBn⟩
            case measure => simp [intOf]; omega
          · go_wp2
            go_roundw
            case rel => exact ⟨t + 1, by omega, by go_num, z + 1, by omega, by go_num, by show _ = _; simpa using HNX.out, HBn⟩
            case measure => simp [intOf]; omega
        · have htn : t = n := by omega
          have HC : Hid (cntA s l y = z) := by have := HZ.out; rw [take_all HN.out hlt2] at this; exact this
          have hti : ¬ (t : Int) < (n : Int) := by omega
          clear htn
          by_cases hmz : m ≤ (z : Int)
          · have HG : Hid (chG s l m (k + 1) = chG s l m k) := chG_skip (by rw [← HY.out, HC.out]; exact hmz)
            go_wp2
            go_roundw
            case rel => exact ⟨k + 1, by omega, by go_num, g, cap, o, by show _ = _; rw [HG.out]; exact HOL.out, rfl, by show OutW _ _ _ _ _; rw [HG.out]; exact HOq.out⟩
            case measure => simp [intOf]; omega
          · have HG : Hid (chG s l m (k + 1) = insX (chG s l m k) y) := chG_put (by rw [← HY.out, HC.out]; exact hmz) HY.out
            obtain ⟨V2, rfl⟩ : ∃ V2, V2 = wr := ⟨_, rfl⟩
            clear HZ hc1
            go_wp2
            go_loopw [11] (fun a wq => ∃ p : Nat, p ≤ o ∧ a = .int .i64 p ∧ Hid (∀ j, j < p → (chG s l m k).getD j 0 < y) ∧ Hid (Below V2.heap.size V2 wq)) (fun a _ => o - (intOf a).toNat)
            case atStart => exact ⟨0, Nat.zero_le _, rfl, fun j hj => by omega, Below.refl _ _⟩
            case round =>
              obtain ⟨p, hp, rfl, HP, HBp⟩ := hrel
              have HOp : Hid (OutW w wr g cap (chG s l m k)) := HOq.out.step HBp.out
              have hc1 := (HOp.out.bel.cell (p := ⟨b, off + k, none⟩) l0).trans (d0 k hlt)
              rw [← HY.out] at hc1
              by_cases hpo : p < o
              · obtain ⟨x, hx⟩ : ∃ x, x = (chG s l m k).getD p 0 := ⟨_, rfl⟩
                have hc2 := HOp.out.cellQ (j := p) (by rw [HOL.out]; exact hpo)
                rw [← hx] at hc2
                have HX : Hid (x = (chG s l m k).getD p 0) := hx
                have hpi : (p : Int) < (o : Int) := by omega
                clear hx
                by_cases hxy : x < y
                · have HP2 : Hid (∀ j, j < p + 1 → (chG s l m k).getD j 0 < y) := fun j hj => by
                    by_cases e : j = p
                    · subst e; rw [← HX.out]; exact hxy
                    · exact HP.out j (by omega)
                  go_wp2
                  go_quiet (fail)
                  go_wp2
                  go_roundw
                  case rel => exact ⟨p + 1, by omega, by go_num, HP2, HBp.out.trans ((Joins.below_draws _ _ _).mono HBp.out.size)⟩
                  case measure => simp [intOf]; omega
                · have HPN : Hid (putN (chG s l m k) y = p) := putN_at (by rw [HOL.out]; exact hp) HP.out (fun _ => by rw [← HX.out]; exact hxy)
                  go_wp2
                  go_quiet (fail)
                  go_wp2
                  obtain ⟨V3, hV3⟩ : ∃ V3, V3 = wr.drewN nq := ⟨_, rfl⟩
                  have HO3 : Hid (OutW w V3 g cap (chG s l m k)) := by show OutW _ _ _ _ _; rw [hV3]; exact HOp.out.step (Joins.below_draws _ _ _)
                  have hc3 : V3.cell? ⟨b, off + k, none⟩ = some (.int .i64 y) := by rw [hV3]; exact hc1
                  have hl3 : b < V3.heap.size := World.block_lt_of_cell? _ _ hc3
                  rw [← hV3]
                  clear hV3 hc1
                  have hcap := row_caps1 HO3.out.row
                  rw [HOL.out] at hcap
                  by_cases hcp : cap = p
                  · have hcp2 := hcp.symm
                    subst hcp2
                    have ho8c : 0 = p ∨ p = o := .inr (by omega)
                    have bE : Below V3.heap.size V3 (V3.alloc (.cells #[] 2)).drew := (below_box _).drew
                    have bB : Below V3.heap.size V3 (((V3.alloc (.cells #[] 2)).alloc (.cells #[.int .i64 y] 2)).drew) := (below_box2 _ _).drew
                    have bC : Below V3.heap.size V3 (((V3.alloc (.cells #[.int .i64 y] 2)).alloc (.cells #[] 2)).drew) := (below_box2 _ _).drew
                    obtain ⟨gA, cA, vA, hA1, rA, dA, qA⟩ := ins_one HO3.out HOL.out hp ho8 bE (heap_alloc_new _ _) (Nat.le_refl _)
                    obtain ⟨gB, cB, vB, hB1, rB, dB, qB⟩ := ins_one HO3.out HOL.out hp ho8 bB (blk_twoQ _ _).1 (Nat.le_refl _)
                    obtain ⟨gC, cC, vC, hC1, rC, dC, qC⟩ := ins_one HO3.out HOL.out hp ho8 bC (blk_twoQ _ _).2 (by omega)
                    obtain ⟨gA2, cA2, vA2, gA3, cA3, vA3, hA2, hA3, HA⟩ := ins_two (o8 := 0) (y := y) (Y := vA.heap.size) HO3.out HOL.out hp ho8 HPN.out (dA.trans ((below_box _).mono dA.size)) (rA.alloc _) (heap_alloc_new vA (.cells #[.int .i64 y] 2)) ho8c
                    obtain ⟨gB2, cB2, vB2, gB3, cB3, vB3, hB2, hB3, HB⟩ := ins_two (o8 := 0) (y := y) (Y := V3.heap.size + 1) HO3.out HOL.out hp ho8 HPN.out dB rB ((qB.block _ (by simp) (by simp)).trans (blk_twoQ _ _).2) ho8c
                    obtain ⟨gC2, cC2, vC2, gC3, cC3, vC3, hC2, hC3, HC3⟩ := ins_two (o8 := 0) (y := y) (Y := V3.heap.size) HO3.out HOL.out hp ho8 HPN.out dC rC ((qC.block _ (by simp; omega) (by simp)).trans (blk_twoQ _ _).1) ho8c
                    have hcA : vA.cell? ⟨b, off + k, none⟩ = some (.int .i64 y) := (dA.cell (p := ⟨b, off + k, none⟩) hl3).trans hc3
                    have hpi2 : (p : Int) ≤ (o : Int) := by omega
                    have hpc : (p : Int) ≤ (p : Int) := by omega
                    have hpc2 : p ≤ p := by omega
                    have hpo2 : p ≤ o := hp
                    have hoc : (o : Int) ≤ (p : Int) := by omega
                    clear qA qB qC rA rB rC dA dB dC bE bB bC
                    have hop : o - p = 0 := by omega
                    rw [hop, Nat.add_zero] at hA3 HA
                    rw [hop, Nat.add_zero] at hB3 HB
                    rw [hop, Nat.add_zero] at hC3 HC3
                    clear hop
                    go_region_law (first | (refine step_append_runQ (by rfl) (.tmp 57) (.tmp 60) 24 (by rfl) (v := .slice (some ⟨V3.heap.size, 0, none⟩) 0 0) (u := .slice (some ⟨g, 0, none⟩) p p) (v' := .slice (some ⟨gA, 0, none⟩) p cA) (w' := vA) (by rfl) (by rfl) ?_ ?_; (with_reducible exact (hA1 _))) | (refine step_append_runQ (by rfl) (.tmp 61) (.tmp 66) 24 (by rfl) (v := .slice (some ⟨gA, 0, none⟩) p cA) (u := .slice (some ⟨vA.heap.size, 0, none⟩) 1 1) (v' := .slice (some ⟨gA2, 0, none⟩) (p + 1) cA2) (w' := vA2) (by rfl) (by rfl) ?_ ?_; (with_reducible exact hA2)) | (refine step_append_runQ (by rfl) (.tmp 67) (.tmp 70) 24 (by rfl) (v := .slice (some ⟨gA2, 0, none⟩) (p + 1) cA2) (u := .slice (some ⟨g, 0, none⟩) 0 0) (v' := .slice (some ⟨gA3, 0, none⟩) (p + 1) cA3) (w' := vA3) (by rfl) (by rfl) ?_ ?_; (with_reducible exact (hA3 _))) | (refine step_append_runQ (by rfl) (.tmp 57) (.tmp 60) 24 (by rfl) (v := .slice (some ⟨V3.heap.size, 0, none⟩) 0 0) (u := .slice (some ⟨g, 0, none⟩) p p) (v' := .slice (some ⟨gB, 0, none⟩) p cB) (w' := vB) (by rfl) (by rfl) ?_ ?_; (with_reducible exact (hB1 _))) | (refine step_append_runQ (by rfl) (.tmp 61) (.tmp 66) 24 (by rfl) (v := .slice (some ⟨gB, 0, none⟩) p cB) (u := .slice (some ⟨V3.heap.size + 1, 0, none⟩) 1 1) (v' := .slice (some ⟨gB2, 0, none⟩) (p + 1) cB2) (w' := vB2) (by rfl) (by rfl) ?_ ?_; (with_reducible exact hB2)) | (refine step_append_runQ (by rfl) (.tmp 67) (.tmp 70) 24 (by rfl) (v := .slice (some ⟨gB2, 0, none⟩) (p + 1) cB2) (u := .slice (some ⟨g, 0, none⟩) 0 0) (v' := .slice (some ⟨gB3, 0, none⟩) (p + 1) cB3) (w' := vB3) (by rfl) (by rfl) ?_ ?_; (with_reducible exact (hB3 _))) | (refine step_append_runQ (by rfl) (.tmp 57) (.tmp 60) 24 (by rfl) (v := .slice (some ⟨V3.heap.size + 1, 0, none⟩) 0 0) (u := .slice (some ⟨g, 0, none⟩) p p) (v' := .slice (some ⟨gC, 0, none⟩) p cC) (w' := vC) (by rfl) (by rfl) ?_ ?_; (with_reducible exact (hC1 _))) | (refine step_append_runQ (by rfl) (.tmp 61) (.tmp 66) 24 (by rfl) (v := .slice (some ⟨gC, 0, none⟩) p cC) (u := .slice (some ⟨V3.heap.size, 0, none⟩) 1 1) (v' := .slice (some ⟨gC2, 0, none⟩) (p + 1) cC2) (w' := vC2) (by rfl) (by rfl) ?_ ?_; (with_reducible exact hC2)) | (refine step_append_runQ (by rfl) (.tmp 67) (.tmp 70) 24 (by rfl) (v := .slice (some ⟨gC2, 0, none⟩) (p + 1) cC2) (u := .slice (some ⟨g, 0, none⟩) 0 0) (v' := .slice (some ⟨gC3, 0, none⟩) (p + 1) cC3) (w' := vC3) (by rfl) (by rfl) ?_ ?_; (with_reducible exact (hC3 _))))
                    all_goals
                      go_wp2
                      go_roundw
                      case rel => first | exact ⟨k + 1, by omega, by go_num, gA3, cA3, _, by show _ = _; rw [HG.out]; exact HA.out.1, rfl, by show OutW _ _ _ _ _; rw [HG.out]; exact HA.out.2⟩ | exact ⟨k + 1, by omega, by go_num, gB3, cB3, _, by show _ = _; rw [HG.out]; exact HB.out.1, rfl, by show OutW _ _ _ _ _; rw [HG.out]; exact HB.out.2⟩ | exact ⟨k + 1, by omega, by go_num, gC3, cC3, _, by show _ = _; rw [HG.out]; exact HC3.out.1, rfl, by show OutW _ _ _ _ _; rw [HG.out]; exact HC3.out.2⟩
                      case measure => simp [intOf]; omega
                  · have ho8c : p = p ∨ p = o := .inl rfl
                    have bE : Below V3.heap.size V3 (V3.alloc (.cells #[] 2)).drew := (below_box _).drew
                    have bB : Below V3.heap.size V3 (((V3.alloc (.cells #[] 2)).alloc (.cells #[.int .i64 y] 2)).drew) := (below_box2 _ _).drew
                    have bC : Below V3.heap.size V3 (((V3.alloc (.cells #[.int .i64 y] 2)).alloc (.cells #[] 2)).drew) := (below_box2 _ _).drew
                    obtain ⟨gA, cA, vA, hA1, rA, dA, qA⟩ := ins_one HO3.out HOL.out hp ho8 bE (heap_alloc_new _ _) (Nat.le_refl _)
                    obtain ⟨gB, cB, vB, hB1, rB, dB, qB⟩ := ins_one HO3.out HOL.out hp ho8 bB (blk_twoQ _ _).1 (Nat.le_refl _)
                    obtain ⟨gC, cC, vC, hC1, rC, dC, qC⟩ := ins_one HO3.out HOL.out hp ho8 bC (blk_twoQ _ _).2 (by omega)
                    obtain ⟨gA2, cA2, vA2, gA3, cA3, vA3, hA2, hA3, HA⟩ := ins_two (o8 := p) (y := y) (Y := vA.heap.size) HO3.out HOL.out hp ho8 HPN.out (dA.trans ((below_box _).mono dA.size)) (rA.alloc _) (heap_alloc_new vA (.cells #[.int .i64 y] 2)) ho8c
                    obtain ⟨gB2, cB2, vB2, gB3, cB3, vB3, hB2, hB3, HB⟩ := ins_two (o8 := p) (y := y) (Y := V3.heap.size + 1) HO3.out HOL.out hp ho8 HPN.out dB rB ((qB.block _ (by simp) (by simp)).trans (blk_twoQ _ _).2) ho8c
                    obtain ⟨gC2, cC2, vC2, gC3, cC3, vC3, hC2, hC3, HC3⟩ := ins_two (o8 := p) (y := y) (Y := V3.heap.size) HO3.out HOL.out hp ho8 HPN.out dC rC ((qC.block _ (by simp; omega) (by simp)).trans (blk_twoQ _ _).1) ho8c
                    have hcA : vA.cell? ⟨b, off + k, none⟩ = some (.int .i64 y) := (dA.cell (p := ⟨b, off + k, none⟩) hl3).trans hc3
                    have hpi2 : (p : Int) ≤ (o : Int) := by omega
                    have hpc : (p : Int) ≤ (cap : Int) := by omega
                    have hpc2 : p ≤ cap := by omega
                    have hpo2 : p ≤ o := hp
                    have hoc : (o : Int) ≤ (cap : Int) := by omega
                    clear qA qB qC rA rB rC dA dB dC bE bB bC
                    go_region_law (first | (refine step_append_runQ (by rfl) (.tmp 57) (.tmp 60) 24 (by rfl) (v := .slice (some ⟨V3.heap.size, 0, none⟩) 0 0) (u := .slice (some ⟨g, 0, none⟩) p cap) (v' := .slice (some ⟨gA, 0, none⟩) p cA) (w' := vA) (by rfl) (by rfl) ?_ ?_; (with_reducible exact (hA1 _))) | (refine step_append_runQ (by rfl) (.tmp 61) (.tmp 66) 24 (by rfl) (v := .slice (some ⟨gA, 0, none⟩) p cA) (u := .slice (some ⟨vA.heap.size, 0, none⟩) 1 1) (v' := .slice (some ⟨gA2, 0, none⟩) (p + 1) cA2) (w' := vA2) (by rfl) (by rfl) ?_ ?_; (with_reducible exact hA2)) | (refine step_append_runQ (by rfl) (.tmp 67) (.tmp 70) 24 (by rfl) (v := .slice (some ⟨gA2, 0, none⟩) (p + 1) cA2) (u := .slice (some ⟨g, p, none⟩) (o - p) (cap - p)) (v' := .slice (some ⟨gA3, 0, none⟩) (p + 1 + (o - p)) cA3) (w' := vA3) (by rfl) (by rfl) ?_ ?_; (with_reducible exact (hA3 _))) | (refine step_append_runQ (by rfl) (.tmp 57) (.tmp 60) 24 (by rfl) (v := .slice (some ⟨V3.heap.size, 0, none⟩) 0 0) (u := .slice (some ⟨g, 0, none⟩) p cap) (v' := .slice (some ⟨gB, 0, none⟩) p cB) (w' := vB) (by rfl) (by rfl) ?_ ?_; (with_reducible exact (hB1 _))) | (refine step_append_runQ (by rfl) (.tmp 61) (.tmp 66) 24 (by rfl) (v := .slice (some ⟨gB, 0, none⟩) p cB) (u := .slice (some ⟨V3.heap.size + 1, 0, none⟩) 1 1) (v' := .slice (some ⟨gB2, 0, none⟩) (p + 1) cB2) (w' := vB2) (by rfl) (by rfl) ?_ ?_; (with_reducible exact hB2)) | (refine step_append_runQ (by rfl) (.tmp 67) (.tmp 70) 24 (by rfl) (v := .slice (some ⟨gB2, 0, none⟩) (p + 1) cB2) (u := .slice (some ⟨g, p, none⟩) (o - p) (cap - p)) (v' := .slice (some ⟨gB3, 0, none⟩) (p + 1 + (o - p)) cB3) (w' := vB3) (by rfl) (by rfl) ?_ ?_; (with_reducible exact (hB3 _))) | (refine step_append_runQ (by rfl) (.tmp 57) (.tmp 60) 24 (by rfl) (v := .slice (some ⟨V3.heap.size + 1, 0, none⟩) 0 0) (u := .slice (some ⟨g, 0, none⟩) p cap) (v' := .slice (some ⟨gC, 0, none⟩) p cC) (w' := vC) (by rfl) (by rfl) ?_ ?_; (with_reducible exact (hC1 _))) | (refine step_append_runQ (by rfl) (.tmp 61) (.tmp 66) 24 (by rfl) (v := .slice (some ⟨gC, 0, none⟩) p cC) (u := .slice (some ⟨V3.heap.size, 0, none⟩) 1 1) (v' := .slice (some ⟨gC2, 0, none⟩) (p + 1) cC2) (w' := vC2) (by rfl) (by rfl) ?_ ?_; (with_reducible exact hC2)) | (refine step_append_runQ (by rfl) (.tmp 67) (.tmp 70) 24 (by rfl) (v := .slice (some ⟨gC2, 0, none⟩) (p + 1) cC2) (u := .slice (some ⟨g, p, none⟩) (o - p) (cap - p)) (v' := .slice (some ⟨gC3, 0, none⟩) (p + 1 + (o - p)) cC3) (w' := vC3) (by rfl) (by rfl) ?_ ?_; (with_reducible exact (hC3 _))))
                    all_goals
                      go_wp2
                      go_roundw
                      case rel => first | exact ⟨k + 1, by omega, by go_num, gA3, cA3, _, by show _ = _; rw [HG.out]; exact HA.out.1, rfl, by show OutW _ _ _ _ _; rw [HG.out]; exact HA.out.2⟩ | exact ⟨k + 1, by omega, by go_num, gB3, cB3, _, by show _ = _; rw [HG.out]; exact HB.out.1, rfl, by show OutW _ _ _ _ _; rw [HG.out]; exact HB.out.2⟩ | exact ⟨k + 1, by omega, by go_num, gC3, cC3, _, by show _ = _; rw [HG.out]; exact HC3.out.1, rfl, by show OutW _ _ _ _ _; rw [HG.out]; exact HC3.out.2⟩
                      case measure => simp [intOf]; omega
              · have HPN : Hid (putN (chG s l m k) y = p) := putN_at (by rw [HOL.out]; exact hp) HP.out (fun h => by rw [HOL.out] at h; omega)
                have hpi : ¬ (p : Int) < (o : Int) := by omega
                go_wp2
                go_quiet (fail)
                go_wp2
                obtain ⟨V3, hV3⟩ : ∃ V3, V3 = wr.drewN nq := ⟨_, rfl⟩
                have HO3 : Hid (OutW w V3 g cap (chG s l m k)) := by show OutW _ _ _ _ _; rw [hV3]; exact HOp.out.step (Joins.below_draws _ _ _)
                have hc3 : V3.cell? ⟨b, off + k, none⟩ = some (.int .i64 y) := by rw [hV3]; exact hc1
                have hl3 : b < V3.heap.size := World.block_lt_of_cell? _ _ hc3
                rw [← hV3]
                clear hV3 hc1
                have hcap := row_caps1 HO3.out.row
                rw [HOL.out] at hcap
                by_cases hcp : cap = p
                · have hcp2 := hcp.symm
                  subst hcp2
                  have ho8c : 0 = p ∨ p = o := .inr (by omega)
                  have bE : Below V3.heap.size V3 (V3.alloc (.cells #[] 2)).drew := (below_box _).drew
                  have bB : Below V3.heap.size V3 (((V3.alloc (.cells #[] 2)).alloc (.cells #[.int .i64 y] 2)).drew) := (below_box2 _ _).drew
                  have bC : Below V3.heap.size V3 (((V3.alloc (.cells #[.int .i64 y] 2)).alloc (.cells #[] 2)).drew) := (below_box2 _ _).drew
                  obtain ⟨gA, cA, vA, hA1, rA, dA, qA⟩ := ins_one HO3.out HOL.out hp ho8 bE (heap_alloc_new _ _) (Nat.le_refl _)
                  obtain ⟨gB, cB, vB, hB1, rB, dB, qB⟩ := ins_one HO3.out HOL.out hp ho8 bB (blk_twoQ _ _).1 (Nat.le_refl _)
                  obtain ⟨gC, cC, vC, hC1, rC, dC, qC⟩ := ins_one HO3.out HOL.out hp ho8 bC (blk_twoQ _ _).2 (by omega)
                  obtain ⟨gA2, cA2, vA2, gA3, cA3, vA3, hA2, hA3, HA⟩ := ins_two (o8 := 0) (y := y) (Y := vA.heap.size) HO3.out HOL.out hp ho8 HPN.out (dA.trans ((below_box _).mono dA.size)) (rA.alloc _) (heap_alloc_new vA (.cells #[.int .i64 y] 2)) ho8c
                  obtain ⟨gB2, cB2, vB2, gB3, cB3, vB3, hB2, hB3, HB⟩ := ins_two (o8 := 0) (y := y) (Y := V3.heap.size + 1) HO3.out HOL.out hp ho8 HPN.out dB rB ((qB.block _ (by simp) (by simp)).trans (blk_twoQ _ _).2) ho8c
                  obtain ⟨gC2, cC2, vC2, gC3, cC3, vC3, hC2, hC3, HC3⟩ := ins_two (o8 := 0) (y := y) (Y := V3.heap.size) HO3.out HOL.out hp ho8 HPN.out dC rC ((qC.block _ (by simp; omega) (by simp)).trans (blk_twoQ _ _).1) ho8c
                  have hcA : vA.cell? ⟨b, off + k, none⟩ = some (.int .i64 y) := (dA.cell (p := ⟨b, off + k, none⟩) hl3).trans hc3
                  have hpi2 : (p : Int) ≤ (o : Int) := by omega
                  have hpc : (p : Int) ≤ (p : Int) := by omega
                  have hpc2 : p ≤ p := by omega
                  have hpo2 : p ≤ o := hp
                  have hoc : (o : Int) ≤ (p : Int) := by omega
                  clear qA qB qC rA rB rC dA dB dC bE bB bC
                  have hop : o - p = 0 := by omega
                  rw [hop, Nat.add_zero] at hA3 HA
                  rw [hop, Nat.add_zero] at hB3 HB
                  rw [hop, Nat.add_zero] at hC3 HC3
                  clear hop
                  go_region_law (first | (refine step_append_runQ (by rfl) (.tmp 57) (.tmp 60) 24 (by rfl) (v := .slice (some ⟨V3.heap.size, 0, none⟩) 0 0) (u := .slice (some ⟨g, 0, none⟩) p p) (v' := .slice (some ⟨gA, 0, none⟩) p cA) (w' := vA) (by rfl) (by rfl) ?_ ?_; (with_reducible exact (hA1 _))) | (refine step_append_runQ (by rfl) (.tmp 61) (.tmp 66) 24 (by rfl) (v := .slice (some ⟨gA, 0, none⟩) p cA) (u := .slice (some ⟨vA.heap.size, 0, none⟩) 1 1) (v' := .slice (some ⟨gA2, 0, none⟩) (p + 1) cA2) (w' := vA2) (by rfl) (by rfl) ?_ ?_; (with_reducible exact hA2)) | (refine step_append_runQ (by rfl) (.tmp 67) (.tmp 70) 24 (by rfl) (v := .slice (some ⟨gA2, 0, none⟩) (p + 1) cA2) (u := .slice (some ⟨g, 0, none⟩) 0 0) (v' := .slice (some ⟨gA3, 0, none⟩) (p + 1) cA3) (w' := vA3) (by rfl) (by rfl) ?_ ?_; (with_reducible exact (hA3 _))) | (refine step_append_runQ (by rfl) (.tmp 57) (.tmp 60) 24 (by rfl) (v := .slice (some ⟨V3.heap.size, 0, none⟩) 0 0) (u := .slice (some ⟨g, 0, none⟩) p p) (v' := .slice (some ⟨gB, 0, none⟩) p cB) (w' := vB) (by rfl) (by rfl) ?_ ?_; (with_reducible exact (hB1 _))) | (refine step_append_runQ (by rfl) (.tmp 61) (.tmp 66) 24 (by rfl) (v := .slice (some ⟨gB, 0, none⟩) p cB) (u := .slice (some ⟨V3.heap.size + 1, 0, none⟩) 1 1) (v' := .slice (some ⟨gB2, 0, none⟩) (p + 1) cB2) (w' := vB2) (by rfl) (by rfl) ?_ ?_; (with_reducible exact hB2)) | (refine step_append_runQ (by rfl) (.tmp 67) (.tmp 70) 24 (by rfl) (v := .slice (some ⟨gB2, 0, none⟩) (p + 1) cB2) (u := .slice (some ⟨g, 0, none⟩) 0 0) (v' := .slice (some ⟨gB3, 0, none⟩) (p + 1) cB3) (w' := vB3) (by rfl) (by rfl) ?_ ?_; (with_reducible exact (hB3 _))) | (refine step_append_runQ (by rfl) (.tmp 57) (.tmp 60) 24 (by rfl) (v := .slice (some ⟨V3.heap.size + 1, 0, none⟩) 0 0) (u := .slice (some ⟨g, 0, none⟩) p p) (v' := .slice (some ⟨gC, 0, none⟩) p cC) (w' := vC) (by rfl) (by rfl) ?_ ?_; (with_reducible exact (hC1 _))) | (refine step_append_runQ (by rfl) (.tmp 61) (.tmp 66) 24 (by rfl) (v := .slice (some ⟨gC, 0, none⟩) p cC) (u := .slice (some ⟨V3.heap.size, 0, none⟩) 1 1) (v' := .slice (some ⟨gC2, 0, none⟩) (p + 1) cC2) (w' := vC2) (by rfl) (by rfl) ?_ ?_; (with_reducible exact hC2)) | (refine step_append_runQ (by rfl) (.tmp 67) (.tmp 70) 24 (by rfl) (v := .slice (some ⟨gC2, 0, none⟩) (p + 1) cC2) (u := .slice (some ⟨g, 0, none⟩) 0 0) (v' := .slice (some ⟨gC3, 0, none⟩) (p + 1) cC3) (w' := vC3) (by rfl) (by rfl) ?_ ?_; (with_reducible exact (hC3 _))))
                  all_goals
                    go_wp2
                    go_roundw
                    case rel => first | exact ⟨k + 1, by omega, by go_num, gA3, cA3, _, by show _ = _; rw [HG.out]; exact HA.out.1, rfl, by show OutW _ _ _ _ _; rw [HG.out]; exact HA.out.2⟩ | exact ⟨k + 1, by omega, by go_num, gB3, cB3, _, by show _ = _; rw [HG.out]; exact HB.out.1, rfl, by show OutW _ _ _ _ _; rw [HG.out]; exact HB.out.2⟩ | exact ⟨k + 1, by omega, by go_num, gC3, cC3, _, by show _ = _; rw [HG.out]; exact HC3.out.1, rfl, by show OutW _ _ _ _ _; rw [HG.out]; exact HC3.out.2⟩
                    case measure => simp [intOf]; omega
                · have ho8c : p = p ∨ p = o := .inl rfl
                  have bE : Below V3.heap.size V3 (V3.alloc (.cells #[] 2)).drew := (below_box _).drew
                  have bB : Below V3.heap.size V3 (((V3.alloc (.cells #[] 2)).alloc (.cells #[.int .i64 y] 2)).drew) := (below_box2 _ _).drew
                  have bC : Below V3.heap.size V3 (((V3.alloc (.cells #[.int .i64 y] 2)).alloc (.cells #[] 2)).drew) := (below_box2 _ _).drew
                  obtain ⟨gA, cA, vA, hA1, rA, dA, qA⟩ := ins_one HO3.out HOL.out hp ho8 bE (heap_alloc_new _ _) (Nat.le_refl _)
                  obtain ⟨gB, cB, vB, hB1, rB, dB, qB⟩ := ins_one HO3.out HOL.out hp ho8 bB (blk_twoQ _ _).1 (Nat.le_refl _)
                  obtain ⟨gC, cC, vC, hC1, rC, dC, qC⟩ := ins_one HO3.out HOL.out hp ho8 bC (blk_twoQ _ _).2 (by omega)
                  obtain ⟨gA2, cA2, vA2, gA3, cA3, vA3, hA2, hA3, HA⟩ := ins_two (o8 := p) (y := y) (Y := vA.heap.size) HO3.out HOL.out hp ho8 HPN.out (dA.trans ((below_box _).mono dA.size)) (rA.alloc _) (heap_alloc_new vA (.cells #[.int .i64 y] 2)) ho8c
                  obtain ⟨gB2, cB2, vB2, gB3, cB3, vB3, hB2, hB3, HB⟩ := ins_two (o8 := p) (y := y) (Y := V3.heap.size + 1) HO3.out HOL.out hp ho8 HPN.out dB rB ((qB.block _ (by simp) (by simp)).trans (blk_twoQ _ _).2) ho8c
                  obtain ⟨gC2, cC2, vC2, gC3, cC3, vC3, hC2, hC3, HC3⟩ := ins_two (o8 := p) (y := y) (Y := V3.heap.size) HO3.out HOL.out hp ho8 HPN.out dC rC ((qC.block _ (by simp; omega) (by simp)).trans (blk_twoQ _ _).1) ho8c
                  have hcA : vA.cell? ⟨b, off + k, none⟩ = some (.int .i64 y) := (dA.cell (p := ⟨b, off + k, none⟩) hl3).trans hc3
                  have hpi2 : (p : Int) ≤ (o : Int) := by omega
                  have hpc : (p : Int) ≤ (cap : Int) := by omega
                  have hpc2 : p ≤ cap := by omega
                  have hpo2 : p ≤ o := hp
                  have hoc : (o : Int) ≤ (cap : Int) := by omega
                  clear qA qB qC rA rB rC dA dB dC bE bB bC
                  go_region_law (first | (refine step_append_runQ (by rfl) (.tmp 57) (.tmp 60) 24 (by rfl) (v := .slice (some ⟨V3.heap.size, 0, none⟩) 0 0) (u := .slice (some ⟨g, 0, none⟩) p cap) (v' := .slice (some ⟨gA, 0, none⟩) p cA) (w' := vA) (by rfl) (by rfl) ?_ ?_; (with_reducible exact (hA1 _))) | (refine step_append_runQ (by rfl) (.tmp 61) (.tmp 66) 24 (by rfl) (v := .slice (some ⟨gA, 0, none⟩) p cA) (u := .slice (some ⟨vA.heap.size, 0, none⟩) 1 1) (v' := .slice (some ⟨gA2, 0, none⟩) (p + 1) cA2) (w' := vA2) (by rfl) (by rfl) ?_ ?_; (with_reducible exact hA2)) | (refine step_append_runQ (by rfl) (.tmp 67) (.tmp 70) 24 (by rfl) (v := .slice (some ⟨gA2, 0, none⟩) (p + 1) cA2) (u := .slice (some ⟨g, p, none⟩) (o - p) (cap - p)) (v' := .slice (some ⟨gA3, 0, none⟩) (p + 1 + (o - p)) cA3) (w' := vA3) (by rfl) (by rfl) ?_ ?_; (with_reducible exact (hA3 _))) | (refine step_append_runQ (by rfl) (.tmp 57) (.tmp 60) 24 (by rfl) (v := .slice (some ⟨V3.heap.size, 0, none⟩) 0 0) (u := .slice (some ⟨g, 0, none⟩) p cap) (v' := .slice (some ⟨gB, 0, none⟩) p cB) (w' := vB) (by rfl) (by rfl) ?_ ?_; (with_reducible exact (hB1 _))) | (refine step_append_runQ (by rfl) (.tmp 61) (.tmp 66) 24 (by rfl) (v := .slice (some ⟨gB, 0, none⟩) p cB) (u := .slice (some ⟨V3.heap.size + 1, 0, none⟩) 1 1) (v' := .slice (some ⟨gB2, 0, none⟩) (p + 1) cB2) (w' := vB2) (by rfl) (by rfl) ?_ ?_; (with_reducible exact hB2)) | (refine step_append_runQ (by rfl) (.tmp 67) (.tmp 70) 24 (by rfl) (v := .slice (some ⟨gB2, 0, none⟩) (p + 1) cB2) (u := .slice (some ⟨g, p, none⟩) (o - p) (cap - p)) (v' := .slice (some ⟨gB3, 0, none⟩) (p + 1 + (o - p)) cB3) (w' := vB3) (by rfl) (by rfl) ?_ ?_; (with_reducible exact (hB3 _))) | (refine step_append_runQ (by rfl) (.tmp 57) (.tmp 60) 24 (by rfl) (v := .slice (some ⟨V3.heap.size + 1, 0, none⟩) 0 0) (u := .slice (some ⟨g, 0, none⟩) p cap) (v' := .slice (some ⟨gC, 0, none⟩) p cC) (w' := vC) (by rfl) (by rfl) ?_ ?_; (with_reducible exact (hC1 _))) | (refine step_append_runQ (by rfl) (.tmp 61) (.tmp 66) 24 (by rfl) (v := .slice (some ⟨gC, 0, none⟩) p cC) (u := .slice (some ⟨V3.heap.size, 0, none⟩) 1 1) (v' := .slice (some ⟨gC2, 0, none⟩) (p + 1) cC2) (w' := vC2) (by rfl) (by rfl) ?_ ?_; (with_reducible exact hC2)) | (refine step_append_runQ (by rfl) (.tmp 67) (.tmp 70) 24 (by rfl) (v := .slice (some ⟨gC2, 0, none⟩) (p + 1) cC2) (u := .slice (some ⟨g, p, none⟩) (o - p) (cap - p)) (v' := .slice (some ⟨gC3, 0, none⟩) (p + 1 + (o - p)) cC3) (w' := vC3) (by rfl) (by rfl) ?_ ?_; (with_reducible exact (hC3 _))))
                  all_goals
                    go_wp2
                    go_roundw
                    case rel => first | exact ⟨k + 1, by omega, by go_num, gA3, cA3, _, by show _ = _; rw [HG.out]; exact HA.out.1, rfl, by show OutW _ _ _ _ _; rw [HG.out]; exact HA.out.2⟩ | exact ⟨k + 1, by omega, by go_num, gB3, cB3, _, by show _ = _; rw [HG.out]; exact HB.out.1, rfl, by show OutW _ _ _ _ _; rw [HG.out]; exact HB.out.2⟩ | exact ⟨k + 1, by omega, by go_num, gC3, cC3, _, by show _ = _; rw [HG.out]; exact HC3.out.1, rfl, by show OutW _ _ _ _ _; rw [HG.out]; exact HC3.out.2⟩
                    case measure => simp [intOf]; omega
    · obtain rfl : k = n := by omega
      have hki : ¬ (k : Int) < (k : Int) := by omega
      go_wp2
      go_ret
      exact ⟨g, cap, by rw [HOL.out]; rfl, HO.out⟩

end Go.Proofs.Ytolpbichkmeaaaa
