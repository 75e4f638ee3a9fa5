/- The program's small parts on choices: they are copied, one is looked for; what a ballot is as a vote. -/
import Derived.Test.YtpcgkgjmcnncdaaZd
import Derived.Test.YtpcgkgjmcnncdaaEi
import Derived.BigRegion
namespace Go.Proofs.Ytpcgkgjmcnncdaa
open Go.RowKit Go.Maps Go.WideMaps

theorem news_chos {W : World} {b off n : Nat} {ms : List Mb} (hx : MAt W (some ⟨b, off, none⟩) n ms) : ∀ j u, (mcells ms)[j]? = some u → W.cell? ((⟨b, off, none⟩ : Addr).add j) = some u := fun j u hj => by
  have hl := hx.1
  have hjm : j < n * 3 := by
    have := (List.getElem?_eq_some_iff.1 hj).1
    rw [mcells_length, hl] at this
    exact this
  rcases hx.2 with h0 | ⟨b', o, e, _, hc⟩
  · omega
  cases e
  have hat := mcells_at ms (j / 3) (by omega)
  have hcc := hc (j / 3) (by omega)
  have ea : (⟨b, off, none⟩ : Addr).add j = ⟨b, off + j, none⟩ := by simp [Addr.add]
  have e3 : j % 3 = 0 ∨ j % 3 = 1 ∨ j % 3 = 2 := by omega
  rcases e3 with e | e | e
  · rw [ea, show off + j = off + j / 3 * 3 by omega, hcc.1]
    rw [show j = j / 3 * 3 by omega, hat.1] at hj
    exact hj
  · rw [ea, show off + j = off + j / 3 * 3 + 1 by omega, hcc.2.1]
    rw [show j = j / 3 * 3 + 1 by omega, hat.2.1] at hj
    exact hj
  · rw [ea, show off + j = off + j / 3 * 3 + 2 by omega, hcc.2.2]
    rw [show j = j / 3 * 3 + 2 by omega, hat.2.2] at hj
    exact hj
/-- Choices appended to a row of choices. -/
theorem chos_more {V : World} {lo b off m n c : Nat} {v : Value} {xs ms : List Mb} (hO : V.ownsRow lo 44 3 v m (mcells xs)) (hm : m ≤ 1048576) (hM : MAt V (some ⟨b, off, none⟩) n ms) (hn : n ≤ 1048576) (hV : lo ≤ V.heap.size) :
    ∃ v' v1, (Builtin.append_ #[24, 24] 24 #[v, .slice (some ⟨b, off, none⟩) n c]).run Try.prog V = .ok v' v1 ∧ v1.ownsRow lo 44 3 v' (m + n) (mcells (xs ++ ms)) ∧ V.grownBy v1 v.ownBlock ∧ ∃ va vc, v' = .slice va (m + n) vc := by
  obtain ⟨i0, hi, hz0, hz1, hz2⟩ := info_parts Try.infoCho
  obtain ⟨v', w3, hrun, hown', hgrow, hsome⟩ := run_append_own (P := Try.prog) V lo 24 24 44 i0 (.agg #[.int .i64 0, .int .i64 0, .int .i64 0]) 3 24 Try.underlying24 hi hz0 hz1 hz2 rfl (by decide) v m (mcells xs) hO ⟨b, off, none⟩ n c (mcells ms) (by rw [mcells_length, hM.1]) (news_chos hM) mcells_one (by unfold maxLen; omega) (by omega) hV
  refine ⟨v', w3, hrun, ?_, hgrow, ?_⟩
  · unfold mcells at hown' ⊢
    rw [List.flatMap_append]
    exact hown'
  · rcases id hown'.2 with ⟨e1, h0⟩ | ⟨g, cap, cur, e1, _⟩
    · exact ⟨none, 0, by rw [e1, h0]⟩
    · exact ⟨_, _, e1⟩
theorem wpList_append_runV {P : Program} {w : World} {ops : Array Oper} {rest : List Oper} {o : Oper} {a : Act} {Q : Exit → Act → World → Prop} (hgd : o.guard = none) (s x : Operand) (t : TypeId)
    (hop : o.op = .call { callee := .builtin .append, args := #[s, x], argTypes := #[t, t] }) {v u v' : Value} {w' : World} (hs : a.eval s = v) (hx : a.eval x = u) (hrun : (Builtin.append_ #[t, t] o.type #[v, u]).run P w = .ok v' w') (h : wpList P ops Q rest (a.put o.dst v') w') :
    wpList P ops Q (o :: rest) a w :=
  wpList_plain hgd fun _ hK => by
    unfold Oper.wp
    simp [execOp, hop, resolve, invoke, builtin, hs, hx, hrun, Result.andThen]
    exact hK _ _ h
theorem own_emptyV {W : World} {base X : Nat} {t : TypeId} {size : Nat} (h : W.heap[X]? = some (.cells #[] t (0, 0))) (hb : base ≤ X) : W.ownsRow base t size (.slice (some ⟨X, 0, none⟩) 0 0) 0 [] :=
  ⟨by simp, .inr ⟨X, 0, #[], rfl, hb, h, Nat.le_refl _, by unfold maxLen; omega, by simp, by simp⟩⟩
theorem chos_one {w V : World} {X b off n c : Nat} {ms : List Mb} (hX : V.heap[X]? = some (.cells #[] 44 (0, 0))) (hb : Below w.heap.size w V) (hX1 : w.heap.size ≤ X) (hM : MAt V (some ⟨b, off, none⟩) n ms) (hn : n ≤ 1048576) :
    ∃ va vc v1, (Builtin.append_ #[24, 24] 24 #[.slice (some ⟨X, 0, none⟩) 0 0, .slice (some ⟨b, off, none⟩) n c]).run Try.prog V = .ok (.slice va n vc) v1 ∧ Hid (v1.ownsRow X 44 3 (.slice va n vc) n (mcells ms)) ∧ Hid (Below w.heap.size w v1) ∧ Hid (V.grownBy v1 (some X)) := by
  have hlt := lt_of_block hX
  obtain ⟨v', v1, h1, h2, h3, va, vc, rfl⟩ := chos_more (xs := []) (c := c) (own_emptyV (base := X) (size := 3) hX (Nat.le_refl _)) (by omega) hM hn (by omega)
  rw [Nat.zero_add] at h1 h2
  exact ⟨va, vc, v1, h1, h2, hb.grown h3 hb.size (fun k e => by cases e; exact hX1), h3⟩

set_option maxRecDepth 20000 in
theorem chClone_any (a : Option Addr) (n cap : Nat) (ms : List Mb) (w : World) (hn : n ≤ 1048576) (hM : MAt w a n ms) :
    Calls Try.prog 27 #[.slice a n cap] w fun e w' => ∃ va vc, e = .returned (.slice va n vc) ∧ w'.ownsRow w.heap.size 44 3 (.slice va n vc) n (mcells ms) ∧ Below w.heap.size w w' := by
  cases a with
  | none =>
    obtain rfl : n = 0 := by
      rcases hM.2 with h | ⟨_, _, e, _⟩
      · exact h
      · cases e
    obtain rfl : ms = [] := List.length_eq_zero_iff.1 hM.1
    have hnil : ∀ W : World, (binOp BinOp.eql 24 (.slice none 0 cap) (.slice none 0 0)).run Try.prog W = .ok (.bool true) W := fun W => (by kernel_rfl)
    clear hM
    go_enter Try.func27, Try.ntmps27
    go_wp2
    go_ret
    exact ⟨none, 0, rfl, World.ownsRow_nil _ _ _ _, Below.refl _ _⟩
  | some A =>
    by_cases h0 : n = 0
    · subst h0
      obtain rfl : ms = [] := List.length_eq_zero_iff.1 hM.1
      have hnil : ∀ W : World, (binOp BinOp.eql 24 (.slice (some A) 0 cap) (.slice none 0 0)).run Try.prog W = .ok (.bool false) W := fun W => (by kernel_rfl)
      have hX := heap_alloc_new w (.cells #[] 44)
      clear hM
      go_enter Try.func27, Try.ntmps27
      go_wp2
      go_ret
      exact ⟨_, _, rfl, own_emptyV hX (Nat.le_refl _), below_box _⟩
    · obtain ⟨b, off, rfl⟩ : ∃ b off, A = ⟨b, off, none⟩ := by
        rcases hM.2 with h | ⟨b, off, e, _⟩
        · exact absurd h h0
        · exact ⟨b, off, by simpa using e⟩
      have hbx : Below w.heap.size w (w.alloc (.cells #[] 44)) := below_box _
      obtain ⟨va, vc, w3, hrun, HO, HB, _⟩ := chos_one (c := cap) (heap_alloc_new w (.cells #[] 44)) hbx (Nat.le_refl _) (hM.below hbx (Nat.le_refl _)) hn
      have hnil : ∀ W : World, (binOp BinOp.eql 24 (.slice (some ⟨b, off, none⟩) n cap) (.slice none 0 0)).run Try.prog W = .ok (.bool false) W := fun W => (by kernel_rfl)
      clear hM hbx
      go_enter Try.func27, Try.ntmps27
      go_wp2_with (first | (at_builtin; go_must (refine wpList_append_runV (by rfl) _ _ _ (by rfl) (by rfl) (by rfl) hrun ?_); clear hrun))
      go_ret
      exact ⟨va, vc, rfl, HO.out, HB.out⟩

set_option maxHeartbeats 1000000 in
theorem chIndex_any (a : Option Addr) (n cap : Nat) (ms : List Mb) (p q t : Int) (w : World) (hl : n ≤ maxLen) (hC : MAt w a n ms) :
    Calls Try.prog 36 #[.slice a n cap, .agg #[.int .i64 p, .int .i64 q, .int .i64 t]] w fun e w' => ∃ i : Int, e = .returned (.int .i64 i) ∧ Hid (decide ((p, q, t) ∈ ms) = decide (0 ≤ i)) ∧ Below w.heap.size w w' := by
  unfold maxLen at hl
  have HC : Hid (MAt w a n ms) := hC
  have HN : Hid (ms.length = n) := hC.1
  clear hC
  have HBX0 : Hid (Below w.heap.size w (w.alloc (.cells #[.int .i64 p, .int .i64 q, .int .i64 t] 44))) := below_box _
  go_enter Try.func36, Try.ntmps36
  go_wp2
  go_loopw [8] (fun i wr => ∃ j : Nat, j ≤ n ∧ i = .int .i64 j ∧ Hid ((p, q, t) ∉ ms.take j) ∧ wr.cell? ⟨w.heap.size, 0, none⟩ = some (.int .i64 p) ∧ wr.cell? ⟨w.heap.size, 1, none⟩ = some (.int .i64 q) ∧ wr.cell? ⟨w.heap.size, 2, none⟩ = some (.int .i64 t) ∧ Below w.heap.size w wr) (fun i _ => n - (intOf i).toNat)
  case atStart => exact ⟨0, Nat.zero_le _, rfl, by show _ ∉ _; simp, by simp, by simp, by simp, HBX0.out⟩
  case round =>
    obtain ⟨j, hj, rfl, HJ, hp, hq, ht, hbel⟩ := hrel
    by_cases hlt : j < n
    · rcases HC.out.2 with h0 | ⟨b, off, ha, hb, hc⟩
      · omega
      subst ha
      obtain ⟨g, hg⟩ : ∃ g, g = ms.getD j Z3 := ⟨_, rfl⟩
      have hcx := hc j hlt
      rw [← hg] at hcx
      obtain ⟨hnx, htk⟩ := next_nd HN.out hlt hg
      obtain ⟨g1, g2, g3⟩ := g
      have HTK : Hid (ms.take (j + 1) = ms.take j ++ [(g1, g2, g3)]) := htk
      have HSP : Hid (ms = ms.take j ++ (g1, g2, g3) :: ms.drop (j + 1)) := by show _ = _; rw [← hnx, List.take_append_drop]
      have c0 := (hbel.cell (p := ⟨b, off + j * 3, none⟩) hb).trans hcx.1
      have c1 := (hbel.cell (p := ⟨b, off + j * 3 + 1, none⟩) hb).trans hcx.2.1
      have c2 := (hbel.cell (p := ⟨b, off + j * 3 + 2, none⟩) hb).trans hcx.2.2
      simp only at c0 c1 c2
      clear hg hc hcx hnx htk
      have hki : (j : Int) < (n : Int) := by omega
      by_cases h1 : p = g1
      · have e1 : (p == g1) = true := by simp [h1]
        have H1 : Hid (p = g1) := h1
        clear h1
        by_cases h2 : q = g2
        · have e2 : (q == g2) = true := by simp [h2]
          have H2 : Hid (q = g2) := h2
          clear h2
          by_cases h3 : t = g3
          · have e3 : (t == g3) = true := by simp [h3]
            have HEQ : Hid ((p, q, t) = (g1, g2, g3)) := by show _ = _; rw [H1.out, H2.out, h3]
            clear h3
            go_wp2
            go_quiet (fail)
            go_wp2
            go_ret
            refine ⟨_, rfl, ?_, hbel.trans (Joins.below_draws _ _ _)⟩
            show decide _ = decide _
            rw [decide_eq_true (by rw [HSP.out, HEQ.out]; simp), decide_eq_true (by omega)]
          · have e3 : (t == g3) = false := by simp [h3]
            have HNE : Hid (¬ (p = g1 ∧ q = g2 ∧ t = g3)) := fun e => h3 e.2.2
            clear h3
            have HJ2 : Hid ((p, q, t) ∉ ms.take (j + 1)) := by show _ ∉ _; rw [HTK.out]; exact fun hm => (List.mem_append.1 hm).elim (fun hm => HJ.out hm) (fun hm => HNE.out (by simpa using hm))
            go_wp2
            go_quiet (fail)
            go_wp2
            go_roundw
            case rel => exact ⟨j + 1, by omega, by go_num, HJ2, by simpa using hp, by simpa using hq, by simpa using ht, hbel.trans (Joins.below_draws _ _ _)⟩
            case measure => simp [intOf]; omega
        · have e2 : (q == g2) = false := by simp [h2]
          have HNE : Hid (¬ (p = g1 ∧ q = g2 ∧ t = g3)) := fun e => h2 e.2.1
          clear h2
          have HJ2 : Hid ((p, q, t) ∉ ms.take (j + 1)) := by show _ ∉ _; rw [HTK.out]; exact fun hm => (List.mem_append.1 hm).elim (fun hm => HJ.out hm) (fun hm => HNE.out (by simpa using hm))
          go_wp2
          go_quiet (fail)
          go_wp2
          go_roundw
          case rel => exact ⟨j + 1, by omega, by go_num, HJ2, by simpa using hp, by simpa using hq, by simpa using ht, hbel.trans (Joins.below_draws _ _ _)⟩
          case measure => simp [intOf]; omega
      · have e1 : (p == g1) = false := by simp [h1]
        have HNE : Hid (¬ (p = g1 ∧ q = g2 ∧ t = g3)) := fun e => h1 e.1
        clear h1
        have HJ2 : Hid ((p, q, t) ∉ ms.take (j + 1)) := by show _ ∉ _; rw [HTK.out]; exact fun hm => (List.mem_append.1 hm).elim (fun hm => HJ.out hm) (fun hm => HNE.out (by simpa using hm))
        go_wp2
        go_quiet (fail)
        go_wp2
        go_roundw
        case rel => exact ⟨j + 1, by omega, by go_num, HJ2, by simpa using hp, by simpa using hq, by simpa using ht, hbel.trans (Joins.below_draws _ _ _)⟩
        case measure => simp [intOf]; omega
    · have hki : ¬ (j : Int) < (n : Int) := by omega
      have HF : Hid ((p, q, t) ∉ ms) := by
        have := HJ.out
        rw [List.take_of_length_le (by rw [HN.out]; omega)] at this
        exact this
      go_wp2
      go_ret
      refine ⟨-1, rfl, ?_, hbel⟩
      show (_ ↔ _)
      exact ⟨fun h => absurd h HF.out, fun h => by omega⟩

theorem chContains_any (a : Option Addr) (n cap : Nat) (ms : List Mb) (p q t : Int) (w : World) (hl : n ≤ maxLen) (hC : MAt w a n ms) :
    Calls Try.prog 28 #[.slice a n cap, .agg #[.int .i64 p, .int .i64 q, .int .i64 t]] w fun e w' => e = .returned (.bool (decide ((p, q, t) ∈ ms))) ∧ Below w.heap.size w w' := by
  have hbx : Below w.heap.size w (w.alloc (.cells #[.int .i64 p, .int .i64 q, .int .i64 t] 44)) := below_box _
  have hI := chIndex_any a n cap ms p q t (w.alloc (.cells #[.int .i64 p, .int .i64 q, .int .i64 t] 44)) hl (hC.below hbx (Nat.le_refl _))
  clear hC
  go_enter Try.func28, Try.ntmps28
  go_wp2_with (go_at_call 36; refine hI.mono ?_; rintro e w2 ⟨i, rfl, HM, hb2⟩)
  go_ret
  refine ⟨?_, hbx.trans (hb2.mono (by simp))⟩
  rw [HM.out]; rfl

set_option maxHeartbeats 1000000 in
theorem voteOf_coin (k p q t : Int) (w : World) : Calls Try.prog 29 #[.int .i64 k, .iface 48 (.agg #[.int .i64 p, .int .i64 q, .int .i64 t])] w fun e w' => e = .returned (.agg #[.int .i64 k, .int .i64 2, .int .i64 0, .int .i64 p, .int .i64 q, .int .i64 t]) ∧ Below w.heap.size w w' := by
  have hta : ∀ W : World, (Instr.typeAssert (.iface 48 (.agg #[.int .i64 p, .int .i64 q, .int .i64 t])) 64 67 true).run Try.prog W = .ok (.tuple #[.agg #[.int .i64 0], .bool false]) W := fun _ => by kernel_rfl
  have htb : ∀ W : World, (Instr.typeAssert (.iface 48 (.agg #[.int .i64 p, .int .i64 q, .int .i64 t])) 64 48 true).run Try.prog W = .ok (.tuple #[.agg #[.int .i64 p, .int .i64 q, .int .i64 t], .bool true]) W := fun _ => by kernel_rfl
  go_enter Try.func29, Try.ntmps29
  go_wp2
  go_big_region
  all_goals go_wp2
  refine bodyPost_ret (v := .agg #[.int .i64 k, .int .i64 2, .int .i64 0, .int .i64 p, .int .i64 q, .int .i64 t]) (by simp [results, Try.results29, go_sem]) rfl ⟨rfl, ?_⟩
  repeat' (first | exact Below.refl _ _ | exact below_box3 _ _ _ | refine Below.drew ?_ | refine Below.alloc ?_ (by simp) _)

end Go.Proofs.Ytpcgkgjmcnncdaa
