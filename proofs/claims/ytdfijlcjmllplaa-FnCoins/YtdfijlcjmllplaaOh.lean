/- Outs that are drawn: a few small ones, in memory of their own. -/
import Derived.Test.YtdfijlcjmllplaaCb
import Derived.Test.YtdfijlcjmllplaaWb
import Derived.Test.YtdfijlcjmllplaaBg
namespace Go.Proofs.Ytdfijlcjmllplaa
open Go.RowKit Go.Shelf Go.Maps Go.WideMaps

set_option maxHeartbeats 2000000 in
theorem l1NextBigO_any (SB cn cc t : Nat) (ca : Option Addr) (l : List Int) (k : Int) (w v : World) (hk0 : 200 < k) (hk : k ≤ 1000) (ht : t ≤ 1000) (hcn : cn ≤ 1048576) (hB : BAt w ca cn l) (h : Src w v SB ca cn cc t) :
    Calls Try.prog 18 #[.pointer (some ⟨SB, 0, none⟩), .int .i64 k] v fun e v' => ∃ r : Int, e = .returned (.int .i64 r) ∧ (0 ≤ r ∧ r < k) ∧ Src w v' SB ca cn cc (t + 1) ∧ Chg v v' SB (SB + 1) := by
  obtain ⟨c0, c1⟩ := cells2 h.box
  have hn := h.next
  have hc1 : Chg v (v.setCell ⟨SB, 1, none⟩ (.int .i64 ((t : Int) + 1))) SB (SB + 1) := Chg.of_set (Nat.le_refl _) (Nat.lt_succ_self _) _ _
  have f1 : v.frozen? ⟨SB, 1, none⟩ = false := Joins.unfrozen_of_block h.box 1
  obtain ⟨d0, d1⟩ := cells2 hn.box
  have HN : Hid (Src w (v.setCell ⟨SB, 1, none⟩ (.int .i64 ((t : Int) + 1))) SB ca cn cc (t + 1)) := hn
  have HC : Hid (Chg v (v.setCell ⟨SB, 1, none⟩ (.int .i64 ((t : Int) + 1))) SB (SB + 1)) := hc1
  clear hn hc1
  have hti : ((t + 1 : Nat) : Int) = (t : Int) + 1 := by omega
  rw [hti] at d1
  have hk1 : ¬ k < 1 := by omega
  by_cases hc0 : cn = 0
  · subst hc0
    clear hB
    go_enter Try.func18, Try.ntmps18
    go_wp2
    go_ret
    exact ⟨_, rfl, ⟨Int.emod_nonneg _ (by omega), Int.emod_lt_of_pos _ (by omega)⟩, HN.out, HC.out⟩
  · rcases hB.2 with h0 | ⟨b, off, rfl, hbl, hcell⟩
    · exact absurd h0 hc0
    obtain ⟨j, hj, hjl⟩ : ∃ j : Nat, (t : Int).tmod (cn : Int) = (j : Int) ∧ j < cn := ⟨t % cn, by rw [Int.tmod_eq_emod_of_nonneg (by omega)]; omega, Nat.mod_lt _ (by omega)⟩
    obtain ⟨j2, hj2, hjl2⟩ : ∃ j : Nat, ((t : Int) + 1).tmod (cn : Int) = (j : Int) ∧ j < cn := ⟨(t + 1) % cn, by rw [Int.tmod_eq_emod_of_nonneg (by omega), show (t : Int) + 1 = ((t + 1 : Nat) : Int) by omega]; omega, Nat.mod_lt _ (by omega)⟩
    obtain ⟨q, hq, hql⟩ : ∃ q : Nat, (t : Int).tdiv (cn : Int) = (q : Int) ∧ q ≤ t := ⟨t / cn, by rw [Int.tdiv_eq_ediv_of_nonneg (by omega)]; omega, Nat.div_le_self _ _⟩
    have hx := (HN.out.bel.cell (p := ⟨b, off + j, none⟩) hbl).trans (hcell j hjl)
    have hx2 := (HN.out.bel.cell (p := ⟨b, off + j2, none⟩) hbl).trans (hcell j2 hjl2)
    have hrange := hB.1 j
    have hrange2 := hB.1 j2
    obtain ⟨x, hxe⟩ : ∃ x, x = l.getD j 0 := ⟨_, rfl⟩
    obtain ⟨x2, hxe2⟩ : ∃ x, x = l.getD j2 0 := ⟨_, rfl⟩
    rw [← hxe] at hx hrange
    rw [← hxe2] at hx2 hrange2
    have hji : (j : Int) < (cn : Int) := by omega
    have hji2 : (j2 : Int) < (cn : Int) := by omega
    have hcz : (cn : Int) ≠ 0 := by omega
    have w1 : IntKind.i64.wrap ((q : Int) * 37) = (q : Int) * 37 := IntWalk.i64_in _ (by omega)
    have w2 : IntKind.i64.wrap (x + (q : Int) * 37) = x + (q : Int) * 37 := IntWalk.i64_in _ (by omega)
    have w3 : IntKind.i64.wrap ((x + (q : Int) * 37) * 251) = (x + (q : Int) * 37) * 251 := IntWalk.i64_in _ (by omega)
    have w4 : IntKind.i64.wrap (x2 * 13) = x2 * 13 := IntWalk.i64_in _ (by omega)
    have w5 : IntKind.i64.wrap ((x + (q : Int) * 37) * 251 + x2 * 13) = (x + (q : Int) * 37) * 251 + x2 * 13 := IntWalk.i64_in _ (by omega)
    have w6 : IntKind.i64.wrap ((x + (q : Int) * 37) * 251 + x2 * 13 + (t : Int)) = (x + (q : Int) * 37) * 251 + x2 * 13 + (t : Int) := IntWalk.i64_in _ (by omega)
    have w7 : IntKind.i64.wrap ((t : Int) + 1) = (t : Int) + 1 := IntWalk.i64_in _ (by omega)
    clear hcell hxe hxe2 hB
    go_enter Try.func18, Try.ntmps18
    go_wp2
    go_quiet (fail)
    go_wp2
    go_quiet (fail)
    go_wp2
    go_ret
    refine ⟨_, rfl, ⟨Int.emod_nonneg _ (by omega), Int.emod_lt_of_pos _ (by omega)⟩, ?_, ?_⟩
    · first | exact HN.out.step (Joins.below_draws _ _ _) | exact (HN.out.step (Joins.below_draws _ _ _)).step (Joins.below_draws _ _ _)
    · first | exact HC.out.trans (Chg.of_below (Joins.below_draws _ _ _) _ _) | exact (HC.out.trans (Chg.of_below (Joins.below_draws _ _ _) _ _)).trans (Chg.of_below (Joins.below_draws _ _ _) _ _)

/-- What is told of an out that is drawn. -/
def KO (o : Ou) : Prop := (1 ≤ o.v ∧ o.v ≤ 300) ∧ KR o.l o.x o.y

/-- Outs under way, drawn since v: their tops lie below hi. -/
structure DoS (w v V : World) (SB : Nat) (ca : Option Addr) (cn cc t hi : Nat) (va : Option Addr) (vc : Nat) (os : List Ou) : Prop where
  src : Src w V SB ca cn cc t
  chg : Chg v V SB (SB + 1)
  own : ∃ kv, OOwn V v.heap.size hi (.slice va os.length vc) os.length (fun j => os.getD j O0) kv
  ok : ∀ o ∈ os, KO o
  ord : SB < v.heap.size ∧ hi ≤ V.heap.size
section
variable {w v V V' : World} {SB cn cc t t' hi vc : Nat} {ca va : Option Addr} {os : List Ou}
theorem DoS.draw (h : DoS w v V SB ca cn cc t hi va vc os) (hS : Src w V' SB ca cn cc t') (hc : Chg V V' SB (SB + 1)) : DoS w v V' SB ca cn cc t' hi va vc os := by
  obtain ⟨kv, hk⟩ := h.own
  exact ⟨hS, h.chg.trans hc, ⟨kv, hk.chg hc (.inr h.ord.1)⟩, h.ok, h.ord.1, Nat.le_trans h.ord.2 hc.size⟩
theorem DoS.step (h : DoS w v V SB ca cn cc t hi va vc os) (hb : Below V.heap.size V V') : DoS w v V' SB ca cn cc t hi va vc os := h.draw (h.src.step hb) (Chg.of_below hb _ _)
theorem DoS.grow {W' : World} (h : DoS w v V SB ca cn cc t hi va vc os) {row : Option Nat} (hg : V.grownBy W' row) (hr : ∀ k, row = some k → v.heap.size ≤ k) : Src w W' SB ca cn cc t ∧ Chg v W' SB (SB + 1) := by
  have h1 := h.src.lt
  have h2 := h.ord.1
  have h3 := h.src.sb
  refine ⟨⟨(hg.block SB h1 (fun e => by have := hr SB e.symm; omega)).trans h.src.box, h.src.bel.grown hg (by omega) (fun k hk => by have := hr k hk; omega), h3⟩, ?_⟩
  exact ⟨hg.os.trans h.chg.os, hg.tape.trans h.chg.tape, hg.output.trans h.chg.output, Nat.le_trans h.chg.size hg.size, fun b hb hd => (hg.block b (Nat.lt_of_lt_of_le hb h.chg.size) (fun e => by have := hr b e.symm; omega)).trans (h.chg.block b hb hd)⟩
theorem DoS.more (h : DoS w v V SB ca cn cc t hi va vc os) {B kc : Nat} {ka : Option Addr} {r x y : Int} {l : List Int} (hhi : hi ≤ B) (hvB : v.heap.size ≤ B) (hr : V.ownsRow B 2 1 (.slice ka l.length kc) l.length (ints l)) (hok : KO ⟨r, l, x, y⟩) (hm : os.length ≤ 100) :
    ∃ g cap w5, (Builtin.append_ #[25, 25] 25 #[.slice va os.length vc, .slice (some ⟨V.heap.size, 0, none⟩) 1 1]).run Try.prog (V.alloc (.cells #[.int .i64 r, .slice ka l.length kc, .int .i64 x, .int .i64 y] 36)) = .ok (.slice (some ⟨g, 0, none⟩) (os.length + 1) cap) w5 ∧
      Hid (DoS w v w5 SB ca cn cc t w5.heap.size (some ⟨g, 0, none⟩) cap (os ++ [⟨r, l, x, y⟩])) := by
  have hs := h.step (below_box (.cells #[.int .i64 r, .slice ka l.length kc, .int .i64 x, .int .i64 y] 36))
  obtain ⟨kv, hk⟩ := hs.own
  have hX := heap_alloc_new V (.cells #[.int .i64 r, .slice ka l.length kc, .int .i64 x, .int .i64 y] 36)
  have hsz : v.heap.size ≤ (V.alloc (.cells #[.int .i64 r, .slice ka l.length kc, .int .i64 x, .int .i64 y] 36)).heap.size := hs.chg.size
  obtain ⟨g, cap, w5, hrun, hO, hg⟩ := out_added (f := fun i => (os ++ [(⟨r, l, x, y⟩ : Ou)]).getD i O0) (o := ⟨r, l, x, y⟩) ((hk.up hs.ord.2).ext (fun j hj => by
    rw [List.getD, List.getD, List.getElem?_append_left hj])) hX rfl (Joins.ownsRow_le (hr.alloc _) hvB) (fun i hi' b hb e => by
      have h1 := (hk.keys i hi').2 b hb
      have h2 := (hr.lt b e).1
      omega) (by omega) hsz (by simp [List.getD])
  refine ⟨g, cap, w5, hrun, ?_⟩
  obtain ⟨xs, hrow, _⟩ := hk.row
  obtain ⟨q1, q2⟩ := hs.grow hg (fun k e => (hrow.lt k e).1)
  refine ⟨q1, q2, ⟨_, by rw [List.length_append]; exact hO⟩, fun o ho => ?_, h.ord.1, Nat.le_refl _⟩
  rcases List.mem_append.1 ho with q | q
  · exact h.ok o q
  · simp only [List.mem_cons, List.not_mem_nil, or_false] at q
    rw [q]; exact hok
theorem DoS.keys (h : DoS w v V SB ca cn cc t hi va vc os) (j : Nat) (hj : j < os.length) : (os.getD j O0).l.length ≤ 3 := (h.ok _ (getD_mem hj)).2.1.2
theorem DoS.at (h : DoS w v V SB ca cn cc t hi va vc os) : OAt V va os.length os := by
  obtain ⟨kv, hk⟩ := h.own
  exact hk.at2 rfl fun o ho => (h.ok o ho).2.1.2
theorem DoS.first (hS : Src w v SB ca cn cc t) : DoS w v (v.alloc (.cells #[] 36)) SB ca cn cc t (v.heap.size + 1) (some ⟨v.heap.size, 0, none⟩) 0 [] :=
  ⟨hS.step (below_box _), Chg.of_below (below_box _) _ _, ⟨fun _ => .slice none 0 0, ⟨[], ⟨rfl, .inr ⟨v.heap.size, 0, #[], rfl, Nat.le_refl _, heap_alloc_new _ _, Nat.le_refl _, by unfold maxLen; omega, rfl, rfl⟩⟩, fun j hj => (by simp at hj)⟩, fun b hb => (by simp [Value.ownBlock] at hb; omega), fun j hj => (by simp at hj), fun i j _ hj => (by simp at hj)⟩, fun o ho => (by cases ho), hS.lt, by simp⟩
end

/-- Outs that were drawn. -/
def OutDo (w v : World) (SB : Nat) (ca : Option Addr) (cn cc T : Nat) (e : Ending) (v' : World) : Prop :=
  ∃ (os : List Ou) (va : Option Addr) (vc t' : Nat), e = .returned (.slice va os.length vc) ∧ os.length ≤ 3 ∧ t' ≤ T ∧ Hid (DoS w v v' SB ca cn cc t' v'.heap.size va vc os)

set_option maxRecDepth 20000 in
set_option maxHeartbeats 4000000 in
theorem l4DrawOuts_any (SB cn cc t : Nat) (ca : Option Addr) (l0 : List Int) (w v : World) (ht : t ≤ 800) (hcn : cn ≤ 1048576) (hB : BAt w ca cn l0) (h : Src w v SB ca cn cc t) :
    Calls Try.prog 17 #[.pointer (some ⟨SB, 0, none⟩)] v fun e v' => OutDo w v SB ca cn cc (t + 25) e v' := by
  have HBA : Hid (BAt w ca cn l0) := hB
  have hD0 := DoS.first h
  have HD0 : Hid (DoS w v (v.alloc (.cells #[] 36)) SB ca cn cc t (v.heap.size + 1) (some ⟨v.heap.size, 0, none⟩) 0 []) := hD0
  have h1 := l1Next_any SB cn cc t ca l0 4 w (v.alloc (.cells #[] 36)) (by omega) (by omega) hcn hB hD0.src
  clear hB h hD0
  go_enter Try.func17, Try.ntmps17
  go_wp2_with (first
    | (go_at_call 18; have hq := h1; clear h1; (with_reducible refine hq.mono ?_); clear hq; rintro e v2 ⟨r1, rfl, ⟨a1, b1⟩, hS2, hc2⟩; have b1' : r1 < 4 := b1 (by omega); clear b1; have HD2 : Hid (DoS w v v2 SB ca cn cc (t + 1) (v.heap.size + 1) (some ⟨v.heap.size, 0, none⟩) 0 []) := HD0.out.draw hS2 hc2; clear hS2 hc2 HD0))
  obtain ⟨k2, rfl⟩ := Int.eq_ofNat_of_zero_le a1
  go_loopw [3, 4] (fun u i wr => ∃ k : Nat, k ≤ 3 ∧ i = .int .i64 k ∧ ∃ (va : Option Addr) (m vc : Nat), u = .slice va m vc ∧ Hid (∃ (t' hi : Nat) (os : List Ou), m = os.length ∧ DoS w v wr SB ca cn cc t' hi va vc os ∧ os.length + k ≤ 3 ∧ t' + 8 * k ≤ t + 25)) (fun _ i _ => (intOf i).toNat)
  case atStart => exact ⟨k2, by omega, rfl, some ⟨v.heap.size, 0, none⟩, 0, 0, rfl, _, _, [], rfl, HD2.out, by simp only [List.length_nil]; omega, by omega⟩
  case round =>
    obtain ⟨k, hk, rfl, va, m, vc, rfl, HI⟩ := hrel
    obtain ⟨t', hi, os, hm, hD, hl3, htk⟩ := HI.out
    have HD : Hid (DoS w v wr SB ca cn cc t' hi va vc os) := hD
    by_cases hk0 : 0 < k
    · obtain ⟨k', rfl⟩ : ∃ k', k = k' + 1 := ⟨k - 1, by omega⟩
      have hki : (0 : Int) < ((k' + 1 : Nat) : Int) := by omega
      have hx := l1NextBigO_any SB cn cc t' ca l0 300 w wr (by omega) (by omega) (by omega) hcn HBA.out hD.src
      subst hm
      clear HI hD
      go_wp2_with (first
        | (go_at_call 18; have hq := hx; clear hx; (with_reducible refine hq.mono ?_); clear hq; rintro e v3 ⟨r3, rfl, ⟨a3, b3⟩, hS3, hc3⟩; have hw3 := IntWalk.i64_in (1 + r3) (by omega); have HD3 : Hid (DoS w v v3 SB ca cn cc (t' + 1) hi va vc os) := HD.out.draw hS3 hc3; have hx2 := l2Draw_any SB cn cc (t' + 1) ca l0 w v3 (by omega) hcn HBA.out hS3; clear hS3 hc3)
        | (go_at_call 40; have hq := hx2; clear hx2; (with_reducible refine hq.mono ?_); clear hq; rintro e v4 ⟨l, x, y, ka, kc, t4, rfl, HR4, HK4, ht4, HS4, HC4⟩; have HD4 : Hid (DoS w v v4 SB ca cn cc t4 hi va vc os) := HD3.out.draw HS4.out HC4.out; obtain ⟨g5, c5, v5, hrun, HD5⟩ := HD4.out.more (r := 1 + r3) (x := x) (y := y) HD3.out.ord.2 HD3.out.chg.size HR4.out ⟨⟨by show 1 ≤ 1 + r3; omega, by show 1 + r3 ≤ 300; omega⟩, HK4.out⟩ (by omega))
        | (at_builtin; go_must (refine wpList_append_runC (by rfl) _ _ _ (by rfl) (by rfl) (by rfl) hrun ?_); clear hrun))
      go_roundw
      case rel => exact ⟨k', by omega, by go_num, some ⟨g5, 0, none⟩, os.length + 1, c5, rfl, t4, v5.heap.size, os ++ [⟨1 + r3, l, x, y⟩], by simp, HD5.out, by simp only [List.length_append, List.length_cons, List.length_nil]; omega, by omega⟩
      case measure => simp [intOf]
    · obtain rfl : k = 0 := by omega
      subst hm
      go_wp2
      go_ret
      exact ⟨os, va, vc, t', rfl, by omega, by omega, ⟨hD.src, hD.chg, by obtain ⟨kv, hk⟩ := hD.own; exact ⟨kv, hk.up hD.ord.2⟩, hD.ok, hD.ord.1, Nat.le_refl _⟩⟩

end Go.Proofs.Ytdfijlcjmllplaa
