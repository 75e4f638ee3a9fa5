/- The program's CoinAt keeps its contract. The specification's copies of rules and coins. The specification's and the program's fault of members. The program's fault of members. The specification lets a member join. A tree that is drawn right. The values of coins together: the specification's sum and the program's; CoinSum. What a key alone can spend: among keys, the specification's sum and the program's; OwnedBy. The fault of a block: what it comes to, the specification's, the program's. The program's words of a transaction, and its text. A transaction written and read back: no program in it. An iterator that itself ranges over an iterator: those keys of a rule that signed are told one by one, and counted. -/
import Derived.Test.YtagokfoimokniaaGreatDoorJn4
import Derived.Test.YtagokfoimokniaaGreatDoorJn2
import Derived.Test.YtagokfoimokniaaGreatDoorJn3
import Derived.Test.YtagokfoimokniaaGreatDoorJn1
import Derived.Lib.QuietBelow
import Derived.Maps.OwnSet
import Derived.Lib.SplitLaws
import Derived.Lib.IndexMore
import Derived.Lib.ParseIntBTie
import Derived.RangeFuncNested
import Derived.RangeFuncWrites
namespace Go.Proofs.YtagokfoimokniaaGreatDoor
open Go.RowKit Go.Maps Go.WideMaps

theorem COwn.set2 {w : World} {lo hi b n : Nat} {v : Value} {f : Nat → Co} {kv : Nat → Value} (h : COwn w lo hi v n f kv) (hv : v.ownBlock ≠ some b) (hk : ∀ j, j < n → (kv j).ownBlock ≠ some b) (i : Nat) (u : Value) : COwn (w.setCell ⟨b, i, none⟩ u) lo hi v n f kv := by
  obtain ⟨xs, h1, h2⟩ := h.row
  exact ⟨⟨xs, ownsRow_setCell_other h1 (a := ⟨b, i, none⟩) hv u, h2⟩, h.top, fun j hj => ⟨ownsRow_setCell_other (h.keys j hj).1 (a := ⟨b, i, none⟩) (hk j hj) u, (h.keys j hj).2⟩, h.apart⟩

theorem COwn.lower {w : World} {lo lo' hi hi' n : Nat} {v : Value} {f : Nat → Co} {kv : Nat → Value} (h : COwn w lo hi v n f kv) (hl : lo' ≤ lo) (hh : hi ≤ hi') : COwn w lo' hi' v n f kv := by
  obtain ⟨xs, h1, h2⟩ := h.row
  exact ⟨⟨xs, Joins.ownsRow_le h1 hl, h2⟩, fun b hb => Nat.lt_of_lt_of_le (h.top b hb) hh, fun j hj => ⟨Joins.ownsRow_le (h.keys j hj).1 hl, fun b hb => Nat.lt_of_lt_of_le ((h.keys j hj).2 b hb) hh⟩, h.apart⟩
end Go.Proofs.YtagokfoimokniaaGreatDoor

namespace Go.Proofs.YtagokfoimokniaaGreatDoor
open Go.RowKit Go.Maps Go.WideMaps

set_option maxRecDepth 20000 in
set_option maxHeartbeats 1000000 in
theorem l2Copy_any (b off n cap : Nat) (l : List Int) (x y : Int) (w : World) (hn : n ≤ 1048576) (hI : IAt w (some ⟨b, off, none⟩) n l) :
    Calls Tryz.prog 149 #[.agg #[.slice (some ⟨b, off, none⟩) n cap, .int .i64 x, .int .i64 y]] w fun e w' => ∃ g c, e = .returned (.agg #[.slice (some ⟨g, 0, none⟩) n c, .int .i64 x, .int .i64 y]) ∧ w'.ownsRow (w.heap.size + 1 + 1) 2 1 (.slice (some ⟨g, 0, none⟩) n c) n (ints l) ∧ Below w.heap.size w w' := by
  obtain ⟨t0, t1, t2, t3⟩ := three_blocks w (.cells #[.slice (some ⟨b, off, none⟩) n cap, .int .i64 x, .int .i64 y] 50) (.cells #[.slice none 0 0, .int .i64 0, .int .i64 0] 50) (.cells #[] 2)
  have hbx : Below w.heap.size w (((w.alloc (.cells #[.slice (some ⟨b, off, none⟩) n cap, .int .i64 x, .int .i64 y] 50)).alloc (.cells #[.slice none 0 0, .int .i64 0, .int .i64 0] 50)).alloc (.cells #[] 2)) := below_box3 _ _ _
  obtain ⟨g, kc, w3, hrun, HW⟩ := keys_added (W := (((w.alloc (.cells #[.slice (some ⟨b, off, none⟩) n cap, .int .i64 x, .int .i64 y] 50)).alloc (.cells #[.slice none 0 0, .int .i64 0, .int .i64 0] 50)).alloc (.cells #[] 2))) (X := w.heap.size + 1 + 1) (c := cap) (base := w.heap.size + 1 + 1) t2 (Nat.le_refl _) (hI.below hbx (Nat.le_refl _)) hn (by rw [t3]; omega)
  have h0 : w3.heap[w.heap.size]? = some (.cells #[.slice (some ⟨b, off, none⟩) n cap, .int .i64 x, .int .i64 y] 50 (0, 0)) := (HW.out.2.block w.heap.size (by rw [t3]; omega) (by simp; omega)).trans t0
  have h1 : w3.heap[w.heap.size + 1]? = some (.cells #[.slice none 0 0, .int .i64 0, .int .i64 0] 50 (0, 0)) := (HW.out.2.block (w.heap.size + 1) (by rw [t3]; omega) (by simp)).trans t1
  have HB3 : Hid (Below w.heap.size w w3) := grown_new hbx HW.out.2 (by omega)
  obtain ⟨s0, s1, s2⟩ := cells3 h0
  obtain ⟨r0, r1, r2⟩ := cells3 h1
  have f0 := Joins.unfrozen_of_block h0 0
  have q0 := Joins.unfrozen_of_block h1 0
  have q1 := Joins.unfrozen_of_block h1 1
  have q2 := Joins.unfrozen_of_block h1 2
  have H1 : Hid (w3.heap[w.heap.size + 1]? = some (.cells #[.slice none 0 0, .int .i64 0, .int .i64 0] 50 (0, 0))) := h1
  clear t0 t1 t2 t3 hbx hI h0 h1
  go_enter Tryz.func149, Tryz.ntmps149
  go_wp2_with (first | (at_builtin; go_must (refine wpList_append_runC (by rfl) _ _ _ (by rfl) (by rfl) (by rfl) hrun ?_); clear hrun))
  have hR : (w3.setCell ⟨w.heap.size, 0, none⟩ (.slice (some ⟨g, 0, none⟩) n kc)).heap[w.heap.size + 1]? = some (.cells #[.slice none 0 0, .int .i64 0, .int .i64 0] 50 (0, 0)) := (Below.heap_setCell _ ⟨w.heap.size, 0, none⟩ _ (w.heap.size + 1) (show w.heap.size + 1 ≠ w.heap.size by omega)).trans H1.out
  obtain ⟨j0, j1, j2⟩ := three_set hR (.slice (some ⟨g, 0, none⟩) n kc) (.int .i64 x) (.int .i64 y)
  refine bodyPost_ret (v := .agg #[.slice (some ⟨g, 0, none⟩) n kc, .int .i64 x, .int .i64 y]) (by simp [results, Tryz.results149, go_sem, j0, j1, j2]) rfl ⟨g, kc, rfl, ?_, ?_⟩
  · exact row_set3 (ownsRow_setCell_below HW.out.1 (a := ⟨w.heap.size, 0, none⟩) (show w.heap.size < _ by omega) _) (by omega) _ _ _
  · exact below_set3 (HB3.out.setCell (p := ⟨w.heap.size, 0, none⟩) (Nat.le_refl _) _) (by omega) _ _ _

/-- A coin more: what the append leaves. -/
theorem coin_added {W : World} {lo X j : Nat} {v u : Value} {f : Nat → Co} {kv : Nat → Value} {o : Co} (h : COwn W lo W.heap.size v j f kv) (hX : W.heap[X]? = some (.cells #[.int .i64 o.p, .int .i64 o.q, .int .i64 o.v, u, .int .i64 o.x, .int .i64 o.y, .int .i64 o.h, .bool o.m] 54 (0, 0))) (hu1 : u.oneCell' = true) (hrow : W.ownsRow lo 2 1 u o.l.length (ints o.l)) (hap : ∀ i, i < j → ∀ b, (kv i).ownBlock = some b → u.ownBlock ≠ some b) (hj : j ≤ 1000) (hlo : lo ≤ W.heap.size) (hf : f j = o) :
    ∃ g cap w5, (Builtin.append_ #[28, 28] 28 #[v, .slice (some ⟨X, 0, none⟩) 1 1]).run Tryz.prog W = .ok (.slice (some ⟨g, 0, none⟩) (j + 1) cap) w5 ∧
      Hid (COwn w5 lo w5.heap.size (.slice (some ⟨g, 0, none⟩) (j + 1) cap) (j + 1) f (fun i => if i = j then u else kv i) ∧ W.grownBy w5 v.ownBlock) := by
  obtain ⟨i0, hi, hz0, hz1, hz2⟩ := info_parts Tryz.infoCoin
  obtain ⟨xs, hown, hcells⟩ := h.row
  obtain ⟨v', w5, hrun, hown', hgrow, hsome⟩ := run_append_own (P := Tryz.prog) W lo 28 28 54 i0 (.agg #[.int .i64 0, .int .i64 0, .int .i64 0, .slice none 0 0, .int .i64 0, .int .i64 0, .int .i64 0, .bool false]) 8 80 Tryz.underlying28 hi hz0 hz1 hz2 rfl (by decide) v j xs hown ⟨X, 0, none⟩ 1 1 [.int .i64 o.p, .int .i64 o.q, .int .i64 o.v, u, .int .i64 o.x, .int .i64 o.y, .int .i64 o.h, .bool o.m] rfl (World.news_of_block hX) (by
    intro z hz
    simp only [List.mem_cons, List.not_mem_nil, or_false] at hz
    rcases hz with rfl | rfl | rfl | rfl | rfl | rfl | rfl | rfl <;> first | rfl | exact hu1) (by unfold maxLen; omega) (by omega) hlo
  obtain ⟨g, cap, rfl⟩ := ownsRow_succ hown'
  have hxl := hown.1
  have kp : ∀ (z : Value) (d : Nat) (zs : List Value), W.ownsRow lo 2 1 z d zs → w5.ownsRow lo 2 1 z d zs := fun z d zs hz => hz.kept hgrow (by
    cases e : z.ownBlock with
    | none => exact .inl rfl
    | some b => exact .inr fun e2 => rows_apart (by decide) hown hz b e2.symm e)
  refine ⟨g, cap, w5, hrun, ⟨⟨_, hown', fun i hi => ?_⟩, fun b hb => (hown'.lt b hb).2, fun i hi => ?_, fun i k hik hk b hb => ?_⟩, hgrow⟩
  · by_cases e : i = j
    · subst e
      rw [if_pos rfl, hf]
      refine ⟨?_, ?_, ?_, ?_, ?_, ?_, ?_, ?_⟩ <;> (rw [List.getElem?_append_right (by omega), hxl]; simp)
    · obtain ⟨a0, a1, a2, a3, a4, a5, a6, a7⟩ := hcells i (by omega)
      rw [if_neg e]
      refine ⟨?_, ?_, ?_, ?_, ?_, ?_, ?_, ?_⟩
      · rw [List.getElem?_append_left (by omega)]; exact a0
      · rw [List.getElem?_append_left (by omega)]; exact a1
      · rw [List.getElem?_append_left (by omega)]; exact a2
      · rw [List.getElem?_append_left (by omega)]; exact a3
      · rw [List.getElem?_append_left (by omega)]; exact a4
      · rw [List.getElem?_append_left (by omega)]; exact a5
      · rw [List.getElem?_append_left (by omega)]; exact a6
      · rw [List.getElem?_append_left (by omega)]; exact a7
  · by_cases e : i = j
    · subst e
      rw [if_pos rfl, hf]
      exact ⟨kp _ _ _ hrow, fun b hb => ((kp _ _ _ hrow).lt b hb).2⟩
    · rw [if_neg e]
      have := kp _ _ _ (h.keys i (by omega)).1
      exact ⟨this, fun b hb => (this.lt b hb).2⟩
  · rw [if_neg (by omega)] at hb
    by_cases e : k = j
    · rw [if_pos e]; exact hap i (by omega) b hb
    · rw [if_neg e]; exact h.apart i k hik (by omega) b hb

end Go.Proofs.YtagokfoimokniaaGreatDoor

namespace Go.Proofs.YtagokfoimokniaaGreatDoor
open Go.RowKit Go.Maps Go.WideMaps

theorem memB_iff {gs : List (Int × Int)} {x : Int × Int} : memB gs x = true ↔ x ∈ gs := by
  have := num_zero gs x
  unfold memB
  by_cases h : x ∈ gs
  · simp [h] at this; simp [h, this]
  · simp [h] at this; simp [h, this]
end Go.Proofs.YtagokfoimokniaaGreatDoor

namespace Go.Proofs.YtagokfoimokniaaGreatDoor
open Go.RowKit Go.Maps Go.WideMaps

theorem gat_ref {w : World} {base n c : Nat} {a : Option Addr} {gs : List (Int × Int)} (h : w.ownsRow base 47 2 (.slice a n c) n (gcells gs)) (hn : gs.length = n) : GAt w a n gs := by
  rcases h.2 with ⟨e, e0⟩ | ⟨g, cap, cur, e, _⟩
  · cases e; exact ⟨hn, .inl e0⟩
  · cases e; exact GAt.owned h hn
theorem gcells_snoc (gs : List (Int × Int)) (p q : Int) : gcells (gs ++ [(p, q)]) = gcells gs ++ [.int .i64 p, .int .i64 q] := by
  unfold gcells
  rw [List.flatMap_append]
  rfl
/-- A ref more: what the append leaves. -/
theorem ref_added {W : World} {lo X j : Nat} {v : Value} {gs : List (Int × Int)} {p q : Int} (h : W.ownsRow lo 47 2 v j (gcells gs)) (hX : W.heap[X]? = some (.cells #[.int .i64 p, .int .i64 q] 47 (0, 0))) (hj : j ≤ 1000) (hlo : lo ≤ W.heap.size) :
    ∃ g cap w5, (Builtin.append_ #[29, 29] 29 #[v, .slice (some ⟨X, 0, none⟩) 1 1]).run Tryz.prog W = .ok (.slice (some ⟨g, 0, none⟩) (j + 1) cap) w5 ∧
      Hid (w5.ownsRow lo 47 2 (.slice (some ⟨g, 0, none⟩) (j + 1) cap) (j + 1) (gcells (gs ++ [(p, q)])) ∧ W.grownBy w5 v.ownBlock) := by
  obtain ⟨i0, hi, hz0, hz1, hz2⟩ := info_parts Tryz.infoRef
  obtain ⟨v', w5, hrun, hown', hgrow, hsome⟩ := run_append_own (P := Tryz.prog) W lo 29 29 47 i0 (.agg #[.int .i64 0, .int .i64 0]) 2 16 Tryz.underlying29 hi hz0 hz1 hz2 rfl (by decide) v j (gcells gs) h ⟨X, 0, none⟩ 1 1 [.int .i64 p, .int .i64 q] rfl (World.news_of_block hX) (by
    intro z hz
    simp only [List.mem_cons, List.not_mem_nil, or_false] at hz
    rcases hz with rfl | rfl <;> rfl) (by unfold maxLen; omega) (by omega) hlo
  obtain ⟨g, cap, rfl⟩ := ownsRow_succ hown'
  refine ⟨g, cap, w5, hrun, ?_, hgrow⟩
  rw [gcells_snoc]
  exact hown'
end Go.Proofs.YtagokfoimokniaaGreatDoor

namespace Go.Proofs.YtagokfoimokniaaGreatDoor
open Go.RowKit Go.Maps Go.WideMaps

/-- An append in a region, out of its own run. -/
theorem step_append_runM {P : Program} {w : World} {ops : Array Oper} {o : Oper} {a : Act} {K : Act → World → Prop} {Q : Exit → Act → World → Prop} {E : Prop} (hgd : o.guard = none) (s x : Operand) (t : TypeId)
    (hop : o.op = .call { callee := .builtin .append, args := #[s, x], argTypes := #[t, t] }) {v u v' : Value} {w' : World} (hs : a.eval s = v) (hx : a.eval x = u) (hrun : (Builtin.append_ #[t, t] o.type #[v, u]).run P w = .ok v' w') (h : K (a.put o.dst v') w') :
    if Region.wanted o (yielded ops a.tmps) = true then Oper.wp P o a w K Q else E := by
  rw [if_pos (by simp [Region.wanted, hgd])]
  unfold Oper.wp
  simp [execOp, hop, resolve, invoke, builtin, hs, hx, hrun, Result.andThen]
  exact h

end Go.Proofs.YtagokfoimokniaaGreatDoor

namespace Go.Proofs.YtagokfoimokniaaGreatDoor
open Go.RowKit Go.Maps Go.WideMaps

theorem l1Chance_any (SB cn cc t : Nat) (ca : Option Addr) (l : List Int) (k : Int) (w v : World) (hk : k ≤ 200) (ht : t ≤ 1000) (hcn : cn ≤ 1048577) (hB : BAt w ca cn l) (h : Src w v SB ca cn cc t) :
    Calls Tryz.prog 49 #[.pointer (some ⟨SB, 0, none⟩), .int .i64 k] v fun e v' => ∃ r : Bool, e = .returned (.bool r) ∧ Src w v' SB ca cn cc (t + 1) ∧ Chg v v' SB (SB + 1) := by
  have hx := l1Next_any SB cn cc t ca l k w v hk ht hcn hB h
  clear h
  go_enter Tryz.func49, Tryz.ntmps49
  go_wp2_with (go_at_call 18; (with_reducible refine hx.mono ?_); clear hx; rintro e v1 ⟨r, rfl, _, hS, hc⟩)
  go_ret
  exact ⟨_, rfl, hS, hc⟩
end Go.Proofs.YtagokfoimokniaaGreatDoor

namespace Go.Proofs.YtagokfoimokniaaGreatDoor
open Go.RowKit Go.Maps Go.WideMaps

def valsR : List Co → Int
  | [] => 0
  | c :: t => c.v + valsR t
/-- Every value within its bounds, and not too many of them. -/
def ValsOk (cs : List Co) : Prop := ∀ c ∈ cs, 1 ≤ c.v ∧ c.v ≤ 1000000
theorem mem_getD {cs : List Co} {n j : Nat} (hj : j < n) (hn : cs.length = n) : cs.getD j C0 ∈ cs := by
  have e : cs.getD j C0 = cs[j]'(by omega) := by simp [List.getD, List.getElem?_eq_getElem (show j < cs.length by omega)]
  rw [e]; exact List.getElem_mem _
theorem coin_val {c : Co} (h : coinR c = 0) : 1 ≤ c.v ∧ c.v ≤ 1000000 := by
  unfold coinR at h
  by_cases h1 : refB (c.p, c.q) = false ∨ inB c.h 0 999 = false
  · rw [if_pos h1] at h; cases h
  · rw [if_neg h1] at h; unfold outR at h
    cases e : inB c.v 1 1000000
    · rw [if_pos e] at h; cases h
    · simp [inB] at e; exact e
theorem vals_ok {pr : Int × Int} {cs : List Co} (h : csR pr cs = 0) : ValsOk cs := by
  induction cs generalizing pr with
  | nil => intro c hc; cases hc
  | cons c t ih =>
    have h0 : coinR c = 0 := by
      by_cases e : coinR c = 0
      · exact e
      · rw [csR_bad rfl e] at h; exact absurd h e
    have h1 : ¬ cmpR (c.p, c.q) pr ≤ 0 := fun e => by rw [csR_form h0 e] at h; cases h
    rw [csR_go h0 h1] at h
    intro d hd
    rcases List.mem_cons.1 hd with rfl | hd
    · exact coin_val h0
    · exact ih h d hd
theorem coins_ok {cs : List Co} (h : coinsR cs = 0) : cs.length ≤ 40 ∧ ValsOk cs := by
  unfold coinsR at h
  by_cases e : 40 < cs.length
  · rw [if_pos e] at h; cases h
  · rw [if_neg e] at h; exact ⟨by omega, vals_ok h⟩
theorem vals_le {cs : List Co} (h : ValsOk cs) : 0 ≤ valsR cs ∧ valsR cs ≤ 1000000 * (cs.length : Int) := by
  induction cs with
  | nil => simp [valsR]
  | cons c t ih =>
    have h1 := ih (fun d hd => h d (List.mem_cons_of_mem _ hd))
    have h2 := h c (List.mem_cons_self ..)
    simp only [valsR, List.length_cons]
    omega
theorem vals_take {cs : List Co} {n j : Nat} {o : Co} (hn : cs.length = n) (hlt : j < n) (ho : o = cs.getD j C0) : valsR (cs.take (j + 1)) = valsR (cs.take j) + o.v := by
  have e : cs.take (j + 1) = cs.take j ++ [o] := by
    have e : cs.getD j C0 = cs[j]'(by omega) := by simp [List.getD, List.getElem?_eq_getElem (show j < cs.length by omega)]
    rw [List.take_add_one, ho, e, List.getElem?_eq_getElem (by omega)]; rfl
  rw [e]
  generalize cs.take j = l
  induction l with
  | nil => simp [valsR]
  | cons c t ih => simp only [List.cons_append, valsR, ih]; omega
theorem ValsOk.take {cs : List Co} (h : ValsOk cs) (j : Nat) : ValsOk (cs.take j) := fun c hc => h c (List.mem_of_mem_take hc)
theorem vals_bound {cs : List Co} {n j : Nat} (h : ValsOk cs) (hn : cs.length = n) (h40 : n ≤ 40) : 0 ≤ valsR (cs.take j) ∧ valsR (cs.take j) ≤ 40000000 := by
  have h1 := vals_le (h.take j)
  have h2 : (cs.take j).length ≤ 40 := by rw [List.length_take]; omega
  omega

theorem l4Sum_any (n c : Nat) (a : Option Addr) (cs : List Co) (w : World) (hn : n ≤ 40) (hv : ValsOk cs) (hC : CAt w a n cs) :
    Calls Tryz.prog 72 #[.slice a n c] w fun e w' => e = .returned (.int .i64 (valsR cs)) ∧ Below w.heap.size w w' := by
  have HC : Hid (CAt w a n cs) := hC
  have HN : Hid (cs.length = n) := hC.1
  have HVS : Hid (ValsOk cs) := hv
  clear hC hv
  go_enter Tryz.func72, Tryz.ntmps72
  go_wp2
  go_loopw [3, 4] (fun t i wr => ∃ j : Nat, j ≤ n ∧ i = .int .i64 j ∧ ∃ v : Int, t = .int .i64 v ∧ Hid (v = valsR (cs.take j)) ∧ Below w.heap.size w wr) (fun _ i _ => n - (intOf i).toNat)
  case atStart => exact ⟨0, Nat.zero_le _, rfl, _, rfl, rfl, Below.refl _ _⟩
  case round =>
    obtain ⟨j, hj, rfl, v, rfl, HT, hbel⟩ := hrel
    by_cases hlt : j < n
    · rcases HC.out.2 with h0 | ⟨b, off, e0, l0, d0⟩
      · omega
      subst e0
      obtain ⟨o, ho⟩ : ∃ o, o = cs.getD j C0 := ⟨_, rfl⟩
      obtain ⟨ka, kc, p0, p4, p5⟩ := d0 j hlt
      rw [← ho] at p0 p4 p5
      have HS : Hid (o = cs.getD j C0) := ho
      have HV := HVS.out o (by rw [ho]; exact mem_getD hlt HN.out)
      obtain ⟨op, oq, ov, ol, ox, oy, oh, om⟩ := o
      obtain ⟨x0, x1, x2, x3, x4, x5, x6, x7⟩ := p0.below hbel l0
      simp only at x0 x1 x2 x3 x4 x5 x6 x7 p4 p5 HV
      have HNX : Hid (cs.drop j = (⟨op, oq, ov, ol, ox, oy, oh, om⟩ : Co) :: cs.drop (j + 1)) := next_coin HN.out hlt HS.out
      have hki : (j : Int) < (n : Int) := by omega
      have hb0 := vals_bound (j := j) HVS.out HN.out hn
      rw [← HT.out] at hb0
      have hwr := IntWalk.i64_in (v + ov) (by omega)
      clear ho d0 p0 p4 p5
      go_wp2
      go_roundw
      case rel => exact ⟨j + 1, by omega, by go_num, _, rfl, by show _ = _; rw [vals_take HN.out hlt HS.out, HT.out], hbel⟩
      case measure => simp [intOf]; omega
    · obtain rfl : v = valsR cs := by rw [HT.out, List.take_of_length_le (by rw [HN.out]; omega)]
      go_wp2
      go_ret
      exact ⟨rfl, hbel⟩

theorem sumOf_any (n c : Nat) (a : Option Addr) (cs : List Co) (w : World) (hn : n ≤ 40) (hv : ValsOk cs) (hC : CAt w a n cs) :
    Calls Tryz.prog 44 #[.slice a n c] w fun e w' => e = .returned (.int .i64 (valsR cs)) ∧ Below w.heap.size w w' := by
  have HC : Hid (CAt w a n cs) := hC
  have HN : Hid (cs.length = n) := hC.1
  have HVS : Hid (ValsOk cs) := hv
  clear hC hv
  go_enter Tryz.func44, Tryz.ntmps44
  go_wp2
  go_loopw [3, 8] (fun t i wr => ∃ j : Nat, j ≤ n ∧ i = .int .i64 j ∧ ∃ v : Int, t = .int .i64 v ∧ Hid (v = valsR (cs.take j)) ∧ Below w.heap.size w wr) (fun _ i _ => n - (intOf i).toNat)
  case atStart => exact ⟨0, Nat.zero_le _, rfl, _, rfl, rfl, Below.refl _ _⟩
  case round =>
    obtain ⟨j, hj, rfl, v, rfl, HT, hbel⟩ := hrel
    by_cases hlt : j < n
    · rcases HC.out.2 with h0 | ⟨b, off, e0, l0, d0⟩
      · omega
      subst e0
      obtain ⟨o, ho⟩ : ∃ o, o = cs.getD j C0 := ⟨_, rfl⟩
      obtain ⟨ka, kc, p0, p4, p5⟩ := d0 j hlt
      rw [← ho] at p0 p4 p5
      have HS : Hid (o = cs.getD j C0) := ho
      have HV := HVS.out o (by rw [ho]; exact mem_getD hlt HN.out)
      obtain ⟨op, oq, ov, ol, ox, oy, oh, om⟩ := o
      obtain ⟨x0, x1, x2, x3, x4, x5, x6, x7⟩ := p0.below hbel l0
      simp only at x0 x1 x2 x3 x4 x5 x6 x7 p4 p5 HV
      have HNX : Hid (cs.drop j = (⟨op, oq, ov, ol, ox, oy, oh, om⟩ : Co) :: cs.drop (j + 1)) := next_coin HN.out hlt HS.out
      have hki : (j : Int) < (n : Int) := by omega
      have hb0 := vals_bound (j := j) HVS.out HN.out hn
      rw [← HT.out] at hb0
      have hwr := IntWalk.i64_in (v + ov) (by omega)
      clear ho d0 p0 p4 p5
      go_wp2
      go_roundw
      case rel => exact ⟨j + 1, by omega, by go_num, _, rfl, by show _ = _; rw [vals_take HN.out hlt HS.out, HT.out], hbel.alloc hbel.size _⟩
      case measure => simp [intOf]; omega
    · obtain rfl : v = valsR cs := by rw [HT.out, List.take_of_length_le (by rw [HN.out]; omega)]
      go_wp2
      go_ret
      exact ⟨rfl, hbel⟩

/-- What CoinSum answers: a code, and the values together. -/
def coinSumR (cs : List Co) : Int × Int := if coinsR cs = 0 then (0, valsR cs) else (coinsR cs, 0)

theorem iCoinSum_any (n c : Nat) (a : Option Addr) (cs : List Co) (w : World) (hn : n ≤ 1048576) (hk : ∀ j, j < n → (cs.getD j C0).l.length ≤ 1048576) (hC : CAt w a n cs) :
    Calls Tryz.prog 14 #[.slice a n c] w fun e w' => e = .returned (.agg #[.int .i64 (coinSumR cs).1, .int .i64 (coinSumR cs).2]) ∧ Below w.heap.size w w' := by
  have hbx : Below w.heap.size w (w.alloc (.cells #[.int .i64 0, .int .i64 0] 36)) := below_box _
  have hF := iCoinsFault_any n c a cs (w.alloc (.cells #[.int .i64 0, .int .i64 0] 36)) hn hk (hC.below hbx (Nat.le_refl _))
  have HX : Hid ((w.alloc (.cells #[.int .i64 0, .int .i64 0] 36)).heap[w.heap.size]? = some (.cells #[.int .i64 0, .int .i64 0] 36 (0, 0))) := heap_alloc_new _ _
  have HB : Hid (Below w.heap.size w (w.alloc (.cells #[.int .i64 0, .int .i64 0] 36))) := hbx
  obtain ⟨cd, hcd⟩ : ∃ r, r = coinsR cs := ⟨_, rfl⟩
  rw [← hcd] at hF
  have HC : Hid (CAt w a n cs) := hC
  by_cases h0 : cd = 0
  · subst h0
    obtain ⟨h40, hv⟩ := coins_ok hcd.symm
    rw [hC.1] at h40
    have e : coinSumR cs = (0, valsR cs) := by unfold coinSumR; rw [if_pos hcd.symm]
    rw [e]
    have HVS : Hid (ValsOk cs) := hv
    clear hcd e hv hC hk hbx
    go_enter Tryz.func14, Tryz.ntmps14
    go_wp2_with (first
      | (go_at_call 43; (with_reducible refine hF.mono ?_); clear hF; rintro e w2 ⟨rfl, hb2⟩; have HX2 := keepb HX.out hb2; have HB2 : Hid (Below w.heap.size w w2) := HB.out.trans (hb2.mono HB.out.size); have hS := sumOf_any n c a cs w2 h40 HVS.out (HC.out.below HB2.out (Nat.le_refl _)); clear hb2)
      | (go_at_call 44; (with_reducible refine hS.mono ?_); clear hS; rintro e w3 ⟨rfl, hb3⟩; have HX3 := keepb HX2.out hb3; obtain ⟨y0, y1⟩ := cells2 HX3.out; have f0 := Joins.unfrozen_of_block HX3.out 0; have f1 := Joins.unfrozen_of_block HX3.out 1; have HB3 : Hid (Below w.heap.size w w3) := HB2.out.trans (hb3.mono HB2.out.size); clear hb3))
    obtain ⟨_, j1⟩ := two_set HX3.out (.int .i64 0) (.int .i64 (valsR cs))
    refine bodyPost_ret (v := .agg #[.int .i64 0, .int .i64 (valsR cs)]) (by simp [results, Tryz.results14, go_sem, j1]) rfl ⟨rfl, (HB3.out.setCell (p := ⟨w.heap.size, 0, none⟩) (Nat.le_refl _) _).setCell (p := ⟨w.heap.size, 1, none⟩) (Nat.le_refl _) _⟩
  · have e : coinSumR cs = (cd, 0) := by unfold coinSumR; rw [← hcd, if_neg h0]
    rw [e]
    clear hcd e hC hk hbx
    go_enter Tryz.func14, Tryz.ntmps14
    go_wp2_with (first
      | (go_at_call 43; (with_reducible refine hF.mono ?_); clear hF; rintro e w2 ⟨rfl, hb2⟩; have HX2 := keepb HX.out hb2; obtain ⟨y0, y1⟩ := cells2 HX2.out; have f0 := Joins.unfrozen_of_block HX2.out 0; have f1 := Joins.unfrozen_of_block HX2.out 1; have HB2 : Hid (Below w.heap.size w w2) := HB.out.trans (hb2.mono HB.out.size); clear hb2))
    obtain ⟨_, j1⟩ := two_set HX2.out (.int .i64 cd) (.int .i64 0)
    refine bodyPost_ret (v := .agg #[.int .i64 cd, .int .i64 0]) (by simp [results, Tryz.results14, go_sem, j1]) rfl ⟨rfl, (HB2.out.setCell (p := ⟨w.heap.size, 0, none⟩) (Nat.le_refl _) _).setCell (p := ⟨w.heap.size, 1, none⟩) (Nat.le_refl _) _⟩

end Go.Proofs.YtagokfoimokniaaGreatDoor

namespace Go.Proofs.YtagokfoimokniaaGreatDoor
open Go.RowKit Go.Maps Go.WideMaps

theorem valsR_append (l t : List Co) : valsR (l ++ t) = valsR l + valsR t := by
  induction l with
  | nil => simp [valsR]
  | cons c r ih => simp only [List.cons_append, valsR, ih]; omega
end Go.Proofs.YtagokfoimokniaaGreatDoor

namespace Go.Proofs.YtagokfoimokniaaGreatDoor
open Go.RowKit Go.Maps Go.WideMaps

theorem IAt.take {w : World} {a : Option Addr} {n k : Nat} {l : List Int} (h : IAt w a n l) (hk : k ≤ n) : IAt w a k (l.take k) := by
  obtain ⟨hn, h⟩ := h
  refine ⟨by simp; omega, ?_⟩
  rcases h with h | ⟨b, off, rfl, hb, hc⟩
  · exact .inl (by omega)
  · refine .inr ⟨b, off, rfl, hb, fun j hj => ?_⟩
    rw [hc j (by omega)]
    simp [List.getD, hj]
end Go.Proofs.YtagokfoimokniaaGreatDoor

namespace Go.Proofs.YtagokfoimokniaaGreatDoor
open Go.RowKit Go.Shelf Go.Maps Go.WideMaps

theorem Ev.rep {w : World} (h : Ev w) : RepAt w := by
  intro t W ht hW
  obtain ⟨z, hz⟩ := (h.below hW (Nat.le_refl _)).mx
  have hs : (str t).size = t.length := rfl
  have hcb := Lib.countB_le ⟨#[32]⟩ (by decide) (str t).size (str t) (Nat.le_refl _)
  have hr := Tryz.strings_ReplaceAll (str t) ⟨#[32]⟩ ⟨#[95]⟩ z W (by rw [hs]; omega) hz (by decide) (by
    have e : (⟨#[95]⟩ : ByteArray).size = 1 := rfl
    rw [e]; omega)
  have e1 : (⟨(Lib.replaceAll (str t).data.toList [32] [95]).toArray⟩ : ByteArray) = str (t.map swp) := by
    have : (str t).data.toList = t := by simp [str]
    rw [this, repl_swap]; rfl
  refine hr.mono fun e w' ⟨he, hb⟩ => ⟨?_, hb⟩
  rw [he]
  exact congrArg (fun q => Ending.returned (.string q)) e1

theorem kn_cells {w : World} (h : Ev w) : w.cell? ⟨0, 0, none⟩ = some (.string (str [112, 97, 121])) ∧ w.cell? ⟨0, 1, none⟩ = some (.string (str [106, 111, 105, 110])) ∧ w.cell? ⟨0, 2, none⟩ = some (.string (str [108, 101, 97, 118, 101])) := by
  have hg : Tryz.prog.globalNamed "loop.example/g00304/impl.kindNames" = some 0 := by kernel_rfl
  exact ⟨World.var?_cell hg h.kn 0, World.var?_cell hg h.kn 1, World.var?_cell hg h.kn 2⟩

theorem own_one (w : World) (s : ByteArray) {base : Nat} (hb : base ≤ w.heap.size) : (w.alloc (.cells #[.string s] 9)).ownsRow base 9 1 (.slice (some ⟨w.heap.size, 0, none⟩) 1 1) 1 [.string s] :=
  ⟨rfl, .inr ⟨w.heap.size, 1, #[.string s], rfl, hb, heap_alloc_new _ _, by omega, by unfold maxLen; omega, rfl, rfl⟩⟩

/-- An append in a plain region, out of its own run. -/
theorem wpList_append_run {P : Program} {w : World} {ops : Array Oper} {rest : List Oper} {o : Oper} {a : Act} {Q : Exit → Act → World → Prop} (hgd : o.guard = none) (s x : Operand) (t : TypeId)
    (hop : o.op = .call { callee := .builtin .append, args := #[s, x], argTypes := #[t, t] }) {v u v' : Value} {w' : World} (hs : a.eval s = v) (hx : a.eval x = u) (hrun : (Builtin.append_ #[t, t] o.type #[v, u]).run P w = .ok v' w') (h : wpList P ops Q rest (a.put o.dst v') w') :
    wpList P ops Q (o :: rest) a w :=
  wpList_plain hgd fun _ hK => by
    unfold Oper.wp
    simp [execOp, hop, resolve, invoke, builtin, hs, hx, hrun, Result.andThen]
    exact hK _ _ h

theorem tx_more {k f : Int} {rs : List (Int × Int)} {os : List Ou} (h : 0 = txR k f rs os) : rs ≠ [] ∧ ∀ j, j < os.length → ruleR (os.getD j O0).l (os.getD j O0).x (os.getD j O0).y = 0 := by
  unfold txR at h
  by_cases h1 : inB k 0 2 = false ∨ ¬ (k = 0 ↔ f = 0)
  · rw [if_pos h1] at h; cases h
  rw [if_neg h1] at h
  by_cases h2 : k ≠ 0 ∧ inB f 1 999 = false
  · rw [if_pos h2] at h; cases h
  rw [if_neg h2] at h
  by_cases h3 : inB rs.length 1 4 = false ∨ inB os.length 1 4 = false
  · rw [if_pos h3] at h; cases h
  rw [if_neg h3] at h
  by_cases h5 : refsR [] rs ≠ 0
  · rw [if_pos h5] at h; exact absurd h.symm h5
  rw [if_neg h5] at h
  unfold joinR at h
  by_cases h6 : outsR os ≠ 0
  · rw [if_pos h6] at h; exact absurd h.symm h6
  refine ⟨?_, fun j hj => outsR_rule (Classical.not_not.1 h6) _ (getD_mem (d := O0) hj)⟩
  rintro rfl
  exact h3 (.inl (by decide))

theorem take_outs {os : List Ou} {n k : Nat} (hn : os.length = n) (hk : k < n) {o : Ou} (ho : o = os.getD k O0) : (os.take (k + 1)).map outW = (os.take k).map outW ++ [outW o] := by
  have e : os.getD k O0 = os[k]'(by omega) := by simp [List.getD, List.getElem?_eq_getElem (show k < os.length by omega)]
  rw [List.take_add_one, ho, e, List.getElem?_eq_getElem (by omega), List.map_append]
  rfl

/-- What the words' walk carries: the transaction's box, the words so far. -/
structure Wd (w v : World) (k f : Int) (ia : Option Addr) (n c : Nat) (oa : Option Addr) (m d : Nat) (x : Value) (N : Nat) (ls : List (List UInt8)) : Prop where
  box : v.heap[w.heap.size]? = some (.cells #[.int .i64 k, .int .i64 f, .slice ia n c, .slice oa m d] 32 (0, 0))
  bel : Below w.heap.size w v
  row : v.ownsRow (w.heap.size + 1) 9 1 x N (texts ls)
theorem Wd.lt {w v : World} {k f : Int} {ia oa : Option Addr} {n c m d N : Nat} {x : Value} {ls : List (List UInt8)} (h : Wd w v k f ia n c oa m d x N ls) : w.heap.size + 1 ≤ v.heap.size := lt_of_block h.box
theorem Wd.add {w v w2 : World} {k f : Int} {ia oa : Option Addr} {n c m d N : Nat} {x : Value} {ls : List (List UInt8)} (h : Wd w v k f ia n c oa m d x N ls) (hb : Below v.heap.size v w2) (hN : N ≤ 100) (t : List UInt8) :
    ∃ g cap w3, (Builtin.append_ #[24, 24] 24 #[x, .slice (some ⟨w2.heap.size, 0, none⟩) 1 1]).run Tryz.prog (w2.alloc (.cells #[.string (str t)] 9)) = .ok (.slice (some ⟨g, 0, none⟩) (N + 1) cap) w3 ∧
      Hid (Wd w w3 k f ia n c oa m d (.slice (some ⟨g, 0, none⟩) (N + 1) cap) (N + 1) (ls ++ [t])) := by
  obtain ⟨g, cap, w3, hrun, HW⟩ := word_added (str t) h.row hb h.lt hN
  refine ⟨g, cap, w3, hrun, ?_, ?_, ?_⟩
  · exact (HW.out.2.block _ (by omega)).trans h.box
  · exact h.bel.trans (HW.out.2.mono (by omega))
  · rw [texts_more]; exact HW.out.1

set_option maxRecDepth 20000 in
set_option maxHeartbeats 4000000 in
theorem txWords_0 (n c m d : Nat) (ia oa : Option Addr) (f : Int) (rs : List (Int × Int)) (os : List Ou) (w : World) (hok : TxOk 0 f rs os) (hrl : ∀ j, j < os.length → ruleR (os.getD j O0).l (os.getD j O0).x (os.getD j O0).y = 0) (h : TxAt w ia n oa m rs os) (hE : Ev w) :
    Calls Tryz.prog 38 #[.agg #[.int .i64 0, .int .i64 f, .slice ia n c, .slice oa m d]] w fun e w' => ∃ v N, e = .returned v ∧ w'.ownsRow (w.heap.size + 1) 9 1 v N (texts (wordsT 0 f rs os)) ∧ Below w.heap.size w w' := by
  have hbx : Below w.heap.size w (w.alloc (.cells #[.int .i64 0, .int .i64 f, .slice ia n c, .slice oa m d] 32)) := below_box _
  obtain ⟨c0, c1, c2⟩ := kn_cells (hE.below hbx (Nat.le_refl _))
  have hs0 : (w.alloc (.cells #[.int .i64 0, .int .i64 f, .slice ia n c, .slice oa m d] 32)).heap.size = w.heap.size + 1 := by simp
  have HE : Hid (Ev w) := hE
  have HT : Hid (TxAt w ia n oa m rs os) := h
  have HOK : Hid (TxOk 0 f rs os) := hok
  have HRL : Hid (∀ j, j < os.length → ruleR (os.getD j O0).l (os.getD j O0).x (os.getD j O0).y = 0) := hrl
  have HN : Hid (rs.length = n) := h.r.1
  have HM : Hid (os.length = m) := h.o.1
  obtain ⟨df, hdf⟩ : ∃ z, z = dec f := ⟨_, rfl⟩
  have HDF : Hid (dec f = df) := hdf.symm
  obtain ⟨rt, hrt⟩ : ∃ z, z = refsW rs := ⟨_, rfl⟩
  have HRT : Hid (refsW rs = rt) := hrt.symm
  have HD1 : Hid (Wd w ((w.alloc (.cells #[.int .i64 0, .int .i64 f, .slice ia n c, .slice oa m d] 32)).alloc (.cells #[.string (str [112, 97, 121])] 9)) 0 f ia n c oa m d (.slice (some ⟨w.heap.size + 1, 0, none⟩) 1 1) 1 [[112, 97, 121]]) := ⟨block_at2, below_box2 _ _, by
    have := own_one (w.alloc (.cells #[.int .i64 0, .int .i64 f, .slice ia n c, .slice oa m d] 32)) (str [112, 97, 121]) (base := w.heap.size + 1) (by rw [hs0]; exact Nat.le_refl _)
    rw [hs0] at this
    exact this⟩
  have hM := hasMember_any 0
  have HRR : Hid (∀ v, Below w.heap.size w v → Calls Tryz.prog 85 #[.slice ia n c] v fun e w' => e = .returned (.string (str rt)) ∧ Below v.heap.size v w') := fun v hv => by
    rw [hrt]; exact writeRefs_any n c ia rs v (by have := hok.n; rw [h.r.1] at this; exact this) (fun j hj => hok.r j (by rw [h.r.1]; exact hj)) (h.r.below hv (Nat.le_refl _)) (hE.tb.below hv (Nat.le_refl _))
  have hA : Calls Tryz.prog 84 #[.int .i64 f] ((w.alloc (.cells #[.int .i64 0, .int .i64 f, .slice ia n c, .slice oa m d] 32)).alloc (.cells #[.string (str [112, 97, 121])] 9)) fun e w' => e = .returned (.string (str df)) ∧ Below ((w.alloc (.cells #[.int .i64 0, .int .i64 f, .slice ia n c, .slice oa m d] 32)).alloc (.cells #[.string (str [112, 97, 121])] 9)).heap.size ((w.alloc (.cells #[.int .i64 0, .int .i64 f, .slice ia n c, .slice oa m d] 32)).alloc (.cells #[.string (str [112, 97, 121])] 9)) w' := by
    rw [hdf]; exact writeNumber_any hok.f.1 hok.f.2 _ (hE.tb.below HD1.out.bel (Nat.le_refl _))
  have hR := HRR.out _ HD1.out.bel
  have hm4 : m ≤ 4 := by have := hok.m; rw [h.o.1] at this; exact this
  clear hdf hrt hok hrl h hE hbx hs0 hA
  go_enter Tryz.func38, Tryz.ntmps38
  go_wp2_with (first
    | (go_at_call 83; refine (hM _).mono ?_; rintro e w' ⟨rfl, hw⟩; have hw2 := hw.symm; subst hw2)
    | (go_at_call 85; (with_reducible refine hR.mono ?_); clear hR; rintro e w4 ⟨rfl, hb4⟩; obtain ⟨g2, k2, w5, hrun, HD5⟩ := HD1.out.add hb4 (by omega) rt; clear hb4)
    | (at_builtin; go_must (refine wpList_append_run (by rfl) _ _ _ (by rfl) (by rfl) (by rfl) hrun ?_); clear hrun; obtain ⟨q0, q1, q2, q3, _⟩ := cells4 HD5.out.box))
  go_loopw [3, 29] (fun v i wr => ∃ j : Nat, j ≤ m ∧ i = .int .i64 j ∧ Hid (Wd w wr 0 f ia n c oa m d v (2 + j) ([[112, 97, 121]] ++ [rt] ++ (os.take j).map outW))) (fun _ i _ => m - (intOf i).toNat)
  case atStart => exact ⟨0, Nat.zero_le _, rfl, by show Wd _ _ _ _ _ _ _ _ _ _ _ _ _; simpa using HD5.out⟩
  case round =>
    obtain ⟨j, hj, rfl, HD⟩ := hrel
    have hbel := HD.out.bel
    by_cases hlt : j < m
    · rcases HT.out.o.2 with h0 | ⟨b, off, e0, l0, d0⟩
      · omega
      subst e0
      obtain ⟨o, ho⟩ : ∃ o, o = os.getD j O0 := ⟨_, rfl⟩
      obtain ⟨ka, kn, kc, y0, y1, y2, y3, y4, y5⟩ := d0 j hlt
      have hoo := HOK.out.o j (by rw [HM.out]; exact hlt)
      have hrr := HRL.out j (by rw [HM.out]; exact hlt)
      rw [← ho] at y0 y2 y3 y5 hoo hrr
      have HX : Hid ((os.take (j + 1)).map outW = (os.take j).map outW ++ [outW o]) := take_outs HM.out hlt ho
      obtain ⟨ow, how⟩ : ∃ z, z = outW o := ⟨_, rfl⟩
      have HOW : Hid (outW o = ow) := how.symm
      rw [HOW.out] at HX
      obtain ⟨ov, ol, ox, oy⟩ := o
      obtain rfl := y5.1
      have x0 := (hbel.cell (p := ⟨b, off + j * 4, none⟩) l0).trans y0
      have x1 := (hbel.cell (p := ⟨b, off + j * 4 + 1, none⟩) l0).trans y1
      have x2 := (hbel.cell (p := ⟨b, off + j * 4 + 2, none⟩) l0).trans y2
      have x3 := (hbel.cell (p := ⟨b, off + j * 4 + 3, none⟩) l0).trans y3
      simp only at x0 x1 x2 x3 hoo hrr y5
      have hol : ol.length ≤ 1048576 := by have := hoo.n.2; simp only at this; omega
      have hb6 : Below w.heap.size w (wr.alloc (.cells #[.int .i64 ov, .slice ka ol.length kc, .int .i64 ox, .int .i64 oy] 52)) := hbel.trans ((below_box _).mono hbel.size)
      have hW := writeOut_any ⟨ov, ol, ox, oy⟩ ka ol.length kc (wr.alloc (.cells #[.int .i64 ov, .slice ka ol.length kc, .int .i64 ox, .int .i64 oy] 52)) hoo hrr hol (y5.below hb6 (Nat.le_refl _)) (HE.out.tb.below hb6 (Nat.le_refl _)) ((HE.out.below hb6 (Nat.le_refl _)).rep)
      have e9 : str (dec ov ++ (61 :: (rtxR ol ox oy).map swp)) = str ow := by rw [how]; rfl
      simp only at hW
      rw [e9] at hW
      have HBX : Hid (Below wr.heap.size wr (wr.alloc (.cells #[.int .i64 ov, .slice ka ol.length kc, .int .i64 ox, .int .i64 oy] 52))) := below_box _
      clear ho d0 y0 y1 y2 y3 y4 y5 hoo hrr how e9 hb6 hol HOW
      have hki : (j : Int) < (m : Int) := by omega
      go_wp2_with (first
        | (go_at_call 86; (with_reducible refine hW.mono ?_); clear hW; rintro e w7 ⟨rfl, hb7⟩; obtain ⟨g3, k3, w8, hrun, HD8⟩ := HD.out.add (HBX.out.trans (hb7.mono HBX.out.size)) (by omega) ow; clear hb7)
        | (at_builtin; go_must (refine wpList_append_run (by rfl) _ _ _ (by rfl) (by rfl) (by rfl) hrun ?_); clear hrun))
      go_roundw
      case rel => exact ⟨j + 1, by omega, by go_num, by show Wd _ _ _ _ _ _ _ _ _ _ _ _ _; rw [HX.out, ← List.append_assoc]; exact HD8.out⟩
      case measure => simp [intOf]; omega
    · have e1 : os.take j = os := List.take_of_length_le (by rw [HM.out]; omega)
      have HZ : Hid (Wd w wr 0 f ia n c oa m d u3 (2 + j) (wordsT 0 f rs os)) := by
        have hz := HD.out
        rw [e1] at hz
        have e2 : wordsT 0 f rs os = [[112, 97, 121]] ++ [rt] ++ os.map outW := by unfold wordsT; rw [HRT.out]; simp [kindW]
        rw [e2]; exact hz
      clear e1
      go_wp2
      go_ret
      exact ⟨_, _, rfl, HZ.out.row, HZ.out.bel⟩

set_option maxRecDepth 20000 in
set_option maxHeartbeats 4000000 in
theorem txWords_1 (n c m d : Nat) (ia oa : Option Addr) (f : Int) (rs : List (Int × Int)) (os : List Ou) (w : World) (hok : TxOk 1 f rs os) (hrl : ∀ j, j < os.length → ruleR (os.getD j O0).l (os.getD j O0).x (os.getD j O0).y = 0) (h : TxAt w ia n oa m rs os) (hE : Ev w) :
    Calls Tryz.prog 38 #[.agg #[.int .i64 1, .int .i64 f, .slice ia n c, .slice oa m d]] w fun e w' => ∃ v N, e = .returned v ∧ w'.ownsRow (w.heap.size + 1) 9 1 v N (texts (wordsT 1 f rs os)) ∧ Below w.heap.size w w' := by
  have hbx : Below w.heap.size w (w.alloc (.cells #[.int .i64 1, .int .i64 f, .slice ia n c, .slice oa m d] 32)) := below_box _
  obtain ⟨c0, c1, c2⟩ := kn_cells (hE.below hbx (Nat.le_refl _))
  have hs0 : (w.alloc (.cells #[.int .i64 1, .int .i64 f, .slice ia n c, .slice oa m d] 32)).heap.size = w.heap.size + 1 := by simp
  have HE : Hid (Ev w) := hE
  have HT : Hid (TxAt w ia n oa m rs os) := h
  have HOK : Hid (TxOk 1 f rs os) := hok
  have HRL : Hid (∀ j, j < os.length → ruleR (os.getD j O0).l (os.getD j O0).x (os.getD j O0).y = 0) := hrl
  have HN : Hid (rs.length = n) := h.r.1
  have HM : Hid (os.length = m) := h.o.1
  obtain ⟨df, hdf⟩ : ∃ z, z = dec f := ⟨_, rfl⟩
  have HDF : Hid (dec f = df) := hdf.symm
  obtain ⟨rt, hrt⟩ : ∃ z, z = refsW rs := ⟨_, rfl⟩
  have HRT : Hid (refsW rs = rt) := hrt.symm
  have HD1 : Hid (Wd w ((w.alloc (.cells #[.int .i64 1, .int .i64 f, .slice ia n c, .slice oa m d] 32)).alloc (.cells #[.string (str [106, 111, 105, 110])] 9)) 1 f ia n c oa m d (.slice (some ⟨w.heap.size + 1, 0, none⟩) 1 1) 1 [[106, 111, 105, 110]]) := ⟨block_at2, below_box2 _ _, by
    have := own_one (w.alloc (.cells #[.int .i64 1, .int .i64 f, .slice ia n c, .slice oa m d] 32)) (str [106, 111, 105, 110]) (base := w.heap.size + 1) (by rw [hs0]; exact Nat.le_refl _)
    rw [hs0] at this
    exact this⟩
  have hM := hasMember_any 1
  have HRR : Hid (∀ v, Below w.heap.size w v → Calls Tryz.prog 85 #[.slice ia n c] v fun e w' => e = .returned (.string (str rt)) ∧ Below v.heap.size v w') := fun v hv => by
    rw [hrt]; exact writeRefs_any n c ia rs v (by have := hok.n; rw [h.r.1] at this; exact this) (fun j hj => hok.r j (by rw [h.r.1]; exact hj)) (h.r.below hv (Nat.le_refl _)) (hE.tb.below hv (Nat.le_refl _))
  have hA : Calls Tryz.prog 84 #[.int .i64 f] ((w.alloc (.cells #[.int .i64 1, .int .i64 f, .slice ia n c, .slice oa m d] 32)).alloc (.cells #[.string (str [106, 111, 105, 110])] 9)) fun e w' => e = .returned (.string (str df)) ∧ Below ((w.alloc (.cells #[.int .i64 1, .int .i64 f, .slice ia n c, .slice oa m d] 32)).alloc (.cells #[.string (str [106, 111, 105, 110])] 9)).heap.size ((w.alloc (.cells #[.int .i64 1, .int .i64 f, .slice ia n c, .slice oa m d] 32)).alloc (.cells #[.string (str [106, 111, 105, 110])] 9)) w' := by
    rw [hdf]; exact writeNumber_any hok.f.1 hok.f.2 _ (hE.tb.below HD1.out.bel (Nat.le_refl _))
  have hm4 : m ≤ 4 := by have := hok.m; rw [h.o.1] at this; exact this
  clear hdf hrt hok hrl h hE hbx hs0 
  go_enter Tryz.func38, Tryz.ntmps38
  go_wp2_with (first
    | (go_at_call 83; refine (hM _).mono ?_; rintro e w' ⟨rfl, hw⟩; have hw2 := hw.symm; subst hw2)
    | (go_at_call 84; (with_reducible refine hA.mono ?_); clear hA; rintro e w2 ⟨rfl, hb2⟩; obtain ⟨g1, k1, w3, hrun, HD2⟩ := HD1.out.add hb2 (by omega) df; clear hb2)
    | (go_at_call 85; (with_reducible refine hR.mono ?_); clear hR; rintro e w4 ⟨rfl, hb4⟩; obtain ⟨g2, k2, w5, hrun, HD5⟩ := HD2.out.add hb4 (by omega) rt; clear hb4)
    | (at_builtin; go_must (first
        | (have hrun' := hrun; have hD5 := HD5; (refine wpList_append_run (by rfl) _ _ _ (by rfl) (by rfl) (by rfl) hrun' ?_); clear hrun hrun'; obtain ⟨q0, q1, q2, q3, _⟩ := cells4 HD5.out.box)
        | ((refine wpList_append_run (by rfl) _ _ _ (by rfl) (by rfl) (by rfl) hrun ?_); clear hrun; obtain ⟨p0, p1, p2, p3, _⟩ := cells4 HD2.out.box; have hR := HRR.out w3 HD2.out.bel))))
  go_loopw [3, 29] (fun v i wr => ∃ j : Nat, j ≤ m ∧ i = .int .i64 j ∧ Hid (Wd w wr 1 f ia n c oa m d v (3 + j) ([[106, 111, 105, 110], df] ++ [rt] ++ (os.take j).map outW))) (fun _ i _ => m - (intOf i).toNat)
  case atStart => exact ⟨0, Nat.zero_le _, rfl, by show Wd _ _ _ _ _ _ _ _ _ _ _ _ _; simpa using HD5.out⟩
  case round =>
    obtain ⟨j, hj, rfl, HD⟩ := hrel
    have hbel := HD.out.bel
    by_cases hlt : j < m
    · rcases HT.out.o.2 with h0 | ⟨b, off, e0, l0, d0⟩
      · omega
      subst e0
      obtain ⟨o, ho⟩ : ∃ o, o = os.getD j O0 := ⟨_, rfl⟩
      obtain ⟨ka, kn, kc, y0, y1, y2, y3, y4, y5⟩ := d0 j hlt
      have hoo := HOK.out.o j (by rw [HM.out]; exact hlt)
      have hrr := HRL.out j (by rw [HM.out]; exact hlt)
      rw [← ho] at y0 y2 y3 y5 hoo hrr
      have HX : Hid ((os.take (j + 1)).map outW = (os.take j).map outW ++ [outW o]) := take_outs HM.out hlt ho
      obtain ⟨ow, how⟩ : ∃ z, z = outW o := ⟨_, rfl⟩
      have HOW : Hid (outW o = ow) := how.symm
      rw [HOW.out] at HX
      obtain ⟨ov, ol, ox, oy⟩ := o
      obtain rfl := y5.1
      have x0 := (hbel.cell (p := ⟨b, off + j * 4, none⟩) l0).trans y0
      have x1 := (hbel.cell (p := ⟨b, off + j * 4 + 1, none⟩) l0).trans y1
      have x2 := (hbel.cell (p := ⟨b, off + j * 4 + 2, none⟩) l0).trans y2
      have x3 := (hbel.cell (p := ⟨b, off + j * 4 + 3, none⟩) l0).trans y3
      simp only at x0 x1 x2 x3 hoo hrr y5
      have hol : ol.length ≤ 1048576 := by have := hoo.n.2; simp only at this; omega
      have hb6 : Below w.heap.size w (wr.alloc (.cells #[.int .i64 ov, .slice ka ol.length kc, .int .i64 ox, .int .i64 oy] 52)) := hbel.trans ((below_box _).mono hbel.size)
      have hW := writeOut_any ⟨ov, ol, ox, oy⟩ ka ol.length kc (wr.alloc (.cells #[.int .i64 ov, .slice ka ol.length kc, .int .i64 ox, .int .i64 oy] 52)) hoo hrr hol (y5.below hb6 (Nat.le_refl _)) (HE.out.tb.below hb6 (Nat.le_refl _)) ((HE.out.below hb6 (Nat.le_refl _)).rep)
      have e9 : str (dec ov ++ (61 :: (rtxR ol ox oy).map swp)) = str ow := by rw [how]; rfl
      simp only at hW
      rw [e9] at hW
      have HBX : Hid (Below wr.heap.size wr (wr.alloc (.cells #[.int .i64 ov, .slice ka ol.length kc, .int .i64 ox, .int .i64 oy] 52))) := below_box _
      clear ho d0 y0 y1 y2 y3 y4 y5 hoo hrr how e9 hb6 hol HOW
      have hki : (j : Int) < (m : Int) := by omega
      go_wp2_with (first
        | (go_at_call 86; (with_reducible refine hW.mono ?_); clear hW; rintro e w7 ⟨rfl, hb7⟩; obtain ⟨g3, k3, w8, hrun, HD8⟩ := HD.out.add (HBX.out.trans (hb7.mono HBX.out.size)) (by omega) ow; clear hb7)
        | (at_builtin; go_must (refine wpList_append_run (by rfl) _ _ _ (by rfl) (by rfl) (by rfl) hrun ?_); clear hrun))
      go_roundw
      case rel => exact ⟨j + 1, by omega, by go_num, by show Wd _ _ _ _ _ _ _ _ _ _ _ _ _; rw [HX.out, ← List.append_assoc]; exact HD8.out⟩
      case measure => simp [intOf]; omega
    · have e1 : os.take j = os := List.take_of_length_le (by rw [HM.out]; omega)
      have HZ : Hid (Wd w wr 1 f ia n c oa m d u3 (3 + j) (wordsT 1 f rs os)) := by
        have hz := HD.out
        rw [e1] at hz
        have e2 : wordsT 1 f rs os = [[106, 111, 105, 110], df] ++ [rt] ++ os.map outW := by unfold wordsT; rw [HRT.out]; simp [kindW, HDF.out]
        rw [e2]; exact hz
      clear e1
      go_wp2
      go_ret
      exact ⟨_, _, rfl, HZ.out.row, HZ.out.bel⟩

set_option maxRecDepth 20000 in
set_option maxHeartbeats 4000000 in
theorem txWords_2 (n c m d : Nat) (ia oa : Option Addr) (f : Int) (rs : List (Int × Int)) (os : List Ou) (w : World) (hok : TxOk 2 f rs os) (hrl : ∀ j, j < os.length → ruleR (os.getD j O0).l (os.getD j O0).x (os.getD j O0).y = 0) (h : TxAt w ia n oa m rs os) (hE : Ev w) :
    Calls Tryz.prog 38 #[.agg #[.int .i64 2, .int .i64 f, .slice ia n c, .slice oa m d]] w fun e w' => ∃ v N, e = .returned v ∧ w'.ownsRow (w.heap.size + 1) 9 1 v N (texts (wordsT 2 f rs os)) ∧ Below w.heap.size w w' := by
  have hbx : Below w.heap.size w (w.alloc (.cells #[.int .i64 2, .int .i64 f, .slice ia n c, .slice oa m d] 32)) := below_box _
  obtain ⟨c0, c1, c2⟩ := kn_cells (hE.below hbx (Nat.le_refl _))
  have hs0 : (w.alloc (.cells #[.int .i64 2, .int .i64 f, .slice ia n c, .slice oa m d] 32)).heap.size = w.heap.size + 1 := by simp
  have HE : Hid (Ev w) := hE
  have HT : Hid (TxAt w ia n oa m rs os) := h
  have HOK : Hid (TxOk 2 f rs os) := hok
  have HRL : Hid (∀ j, j < os.length → ruleR (os.getD j O0).l (os.getD j O0).x (os.getD j O0).y = 0) := hrl
  have HN : Hid (rs.length = n) := h.r.1
  have HM : Hid (os.length = m) := h.o.1
  obtain ⟨df, hdf⟩ : ∃ z, z = dec f := ⟨_, rfl⟩
  have HDF : Hid (dec f = df) := hdf.symm
  obtain ⟨rt, hrt⟩ : ∃ z, z = refsW rs := ⟨_, rfl⟩
  have HRT : Hid (refsW rs = rt) := hrt.symm
  have HD1 : Hid (Wd w ((w.alloc (.cells #[.int .i64 2, .int .i64 f, .slice ia n c, .slice oa m d] 32)).alloc (.cells #[.string (str [108, 101, 97, 118, 101])] 9)) 2 f ia n c oa m d (.slice (some ⟨w.heap.size + 1, 0, none⟩) 1 1) 1 [[108, 101, 97, 118, 101]]) := ⟨block_at2, below_box2 _ _, by
    have := own_one (w.alloc (.cells #[.int .i64 2, .int .i64 f, .slice ia n c, .slice oa m d] 32)) (str [108, 101, 97, 118, 101]) (base := w.heap.size + 1) (by rw [hs0]; exact Nat.le_refl _)
    rw [hs0] at this
    exact this⟩
  have hM := hasMember_any 2
  have HRR : Hid (∀ v, Below w.heap.size w v → Calls Tryz.prog 85 #[.slice ia n c] v fun e w' => e = .returned (.string (str rt)) ∧ Below v.heap.size v w') := fun v hv => by
    rw [hrt]; exact writeRefs_any n c ia rs v (by have := hok.n; rw [h.r.1] at this; exact this) (fun j hj => hok.r j (by rw [h.r.1]; exact hj)) (h.r.below hv (Nat.le_refl _)) (hE.tb.below hv (Nat.le_refl _))
  have hA : Calls Tryz.prog 84 #[.int .i64 f] ((w.alloc (.cells #[.int .i64 2, .int .i64 f, .slice ia n c, .slice oa m d] 32)).alloc (.cells #[.string (str [108, 101, 97, 118, 101])] 9)) fun e w' => e = .returned (.string (str df)) ∧ Below ((w.alloc (.cells #[.int .i64 2, .int .i64 f, .slice ia n c, .slice oa m d] 32)).alloc (.cells #[.string (str [108, 101, 97, 118, 101])] 9)).heap.size ((w.alloc (.cells #[.int .i64 2, .int .i64 f, .slice ia n c, .slice oa m d] 32)).alloc (.cells #[.string (str [108, 101, 97, 118, 101])] 9)) w' := by
    rw [hdf]; exact writeNumber_any hok.f.1 hok.f.2 _ (hE.tb.below HD1.out.bel (Nat.le_refl _))
  have hm4 : m ≤ 4 := by have := hok.m; rw [h.o.1] at this; exact this
  clear hdf hrt hok hrl h hE hbx hs0 
  go_enter Tryz.func38, Tryz.ntmps38
  go_wp2_with (first
    | (go_at_call 83; refine (hM _).mono ?_; rintro e w' ⟨rfl, hw⟩; have hw2 := hw.symm; subst hw2)
    | (go_at_call 84; (with_reducible refine hA.mono ?_); clear hA; rintro e w2 ⟨rfl, hb2⟩; obtain ⟨g1, k1, w3, hrun, HD2⟩ := HD1.out.add hb2 (by omega) df; clear hb2)
    | (go_at_call 85; (with_reducible refine hR.mono ?_); clear hR; rintro e w4 ⟨rfl, hb4⟩; obtain ⟨g2, k2, w5, hrun, HD5⟩ := HD2.out.add hb4 (by omega) rt; clear hb4)
    | (at_builtin; go_must (first
        | (have hrun' := hrun; have hD5 := HD5; (refine wpList_append_run (by rfl) _ _ _ (by rfl) (by rfl) (by rfl) hrun' ?_); clear hrun hrun'; obtain ⟨q0, q1, q2, q3, _⟩ := cells4 HD5.out.box)
        | ((refine wpList_append_run (by rfl) _ _ _ (by rfl) (by rfl) (by rfl) hrun ?_); clear hrun; obtain ⟨p0, p1, p2, p3, _⟩ := cells4 HD2.out.box; have hR := HRR.out w3 HD2.out.bel))))
  go_loopw [3, 29] (fun v i wr => ∃ j : Nat, j ≤ m ∧ i = .int .i64 j ∧ Hid (Wd w wr 2 f ia n c oa m d v (3 + j) ([[108, 101, 97, 118, 101], df] ++ [rt] ++ (os.take j).map outW))) (fun _ i _ => m - (intOf i).toNat)
  case atStart => exact ⟨0, Nat.zero_le _, rfl, by show Wd _ _ _ _ _ _ _ _ _ _ _ _ _; simpa using HD5.out⟩
  case round =>
    obtain ⟨j, hj, rfl, HD⟩ := hrel
    have hbel := HD.out.bel
    by_cases hlt : j < m
    · rcases HT.out.o.2 with h0 | ⟨b, off, e0, l0, d0⟩
      · omega
      subst e0
      obtain ⟨o, ho⟩ : ∃ o, o = os.getD j O0 := ⟨_, rfl⟩
      obtain ⟨ka, kn, kc, y0, y1, y2, y3, y4, y5⟩ := d0 j hlt
      have hoo := HOK.out.o j (by rw [HM.out]; exact hlt)
      have hrr := HRL.out j (by rw [HM.out]; exact hlt)
      rw [← ho] at y0 y2 y3 y5 hoo hrr
      have HX : Hid ((os.take (j + 1)).map outW = (os.take j).map outW ++ [outW o]) := take_outs HM.out hlt ho
      obtain ⟨ow, how⟩ : ∃ z, z = outW o := ⟨_, rfl⟩
      have HOW : Hid (outW o = ow) := how.symm
      rw [HOW.out] at HX
      obtain ⟨ov, ol, ox, oy⟩ := o
      obtain rfl := y5.1
      have x0 := (hbel.cell (p := ⟨b, off + j * 4, none⟩) l0).trans y0
      have x1 := (hbel.cell (p := ⟨b, off + j * 4 + 1, none⟩) l0).trans y1
      have x2 := (hbel.cell (p := ⟨b, off + j * 4 + 2, none⟩) l0).trans y2
      have x3 := (hbel.cell (p := ⟨b, off + j * 4 + 3, none⟩) l0).trans y3
      simp only at x0 x1 x2 x3 hoo hrr y5
      have hol : ol.length ≤ 1048576 := by have := hoo.n.2; simp only at this; omega
      have hb6 : Below w.heap.size w (wr.alloc (.cells #[.int .i64 ov, .slice ka ol.length kc, .int .i64 ox, .int .i64 oy] 52)) := hbel.trans ((below_box _).mono hbel.size)
      have hW := writeOut_any ⟨ov, ol, ox, oy⟩ ka ol.length kc (wr.alloc (.cells #[.int .i64 ov, .slice ka ol.length kc, .int .i64 ox, .int .i64 oy] 52)) hoo hrr hol (y5.below hb6 (Nat.le_refl _)) (HE.out.tb.below hb6 (Nat.le_refl _)) ((HE.out.below hb6 (Nat.le_refl _)).rep)
      have e9 : str (dec ov ++ (61 :: (rtxR ol ox oy).map swp)) = str ow := by rw [how]; rfl
      simp only at hW
      rw [e9] at hW
      have HBX : Hid (Below wr.heap.size wr (wr.alloc (.cells #[.int .i64 ov, .slice ka ol.length kc, .int .i64 ox, .int .i64 oy] 52))) := below_box _
      clear ho d0 y0 y1 y2 y3 y4 y5 hoo hrr how e9 hb6 hol HOW
      have hki : (j : Int) < (m : Int) := by omega
      go_wp2_with (first
        | (go_at_call 86; (with_reducible refine hW.mono ?_); clear hW; rintro e w7 ⟨rfl, hb7⟩; obtain ⟨g3, k3, w8, hrun, HD8⟩ := HD.out.add (HBX.out.trans (hb7.mono HBX.out.size)) (by omega) ow; clear hb7)
        | (at_builtin; go_must (refine wpList_append_run (by rfl) _ _ _ (by rfl) (by rfl) (by rfl) hrun ?_); clear hrun))
      go_roundw
      case rel => exact ⟨j + 1, by omega, by go_num, by show Wd _ _ _ _ _ _ _ _ _ _ _ _ _; rw [HX.out, ← List.append_assoc]; exact HD8.out⟩
      case measure => simp [intOf]; omega
    · have e1 : os.take j = os := List.take_of_length_le (by rw [HM.out]; omega)
      have HZ : Hid (Wd w wr 2 f ia n c oa m d u3 (3 + j) (wordsT 2 f rs os)) := by
        have hz := HD.out
        rw [e1] at hz
        have e2 : wordsT 2 f rs os = [[108, 101, 97, 118, 101], df] ++ [rt] ++ os.map outW := by unfold wordsT; rw [HRT.out]; simp [kindW, HDF.out]
        rw [e2]; exact hz
      clear e1
      go_wp2
      go_ret
      exact ⟨_, _, rfl, HZ.out.row, HZ.out.bel⟩

theorem txWords_any (n c m d : Nat) (ia oa : Option Addr) (k f : Int) (rs : List (Int × Int)) (os : List Ou) (w : World) (hok : TxOk k f rs os) (hrl : ∀ j, j < os.length → ruleR (os.getD j O0).l (os.getD j O0).x (os.getD j O0).y = 0) (h : TxAt w ia n oa m rs os) (hE : Ev w) :
    Calls Tryz.prog 38 #[.agg #[.int .i64 k, .int .i64 f, .slice ia n c, .slice oa m d]] w fun e w' => ∃ v N, e = .returned v ∧ w'.ownsRow (w.heap.size + 1) 9 1 v N (texts (wordsT k f rs os)) ∧ Below w.heap.size w w' := by
  rcases hok.k with rfl | rfl | rfl
  · exact txWords_0 n c m d ia oa f rs os w hok hrl h hE
  · exact txWords_1 n c m d ia oa f rs os w hok hrl h hE
  · exact txWords_2 n c m d ia oa f rs os w hok hrl h hE

end Go.Proofs.YtagokfoimokniaaGreatDoor

namespace Go.Proofs.YtagokfoimokniaaGreatDoor
open Go.RowKit Go.Shelf Go.Maps Go.WideMaps

/-- A transaction's data. -/
structure TxV where
  k : Int
  f : Int
  rs : List (Int × Int)
  os : List Ou

/-! ### What the specification reads -/
/-- A reading that is right and tells just that text. -/
def TxV.fits (x : TxV) (t : List UInt8) : Prop := txR x.k x.f x.rs x.os = 0 ∧ txT x.k x.f x.rs x.os = t ∧ t.length ≤ 300
instance (x : TxV) (t : List UInt8) : Decidable (x.fits t) := by unfold TxV.fits; infer_instance
def kept (o : Option TxV) (t : List UInt8) : Option TxV := match o with
  | some x => if x.fits t then some x else none
  | none => none
/-! ### What the program reads -/
/-! ### Round trips -/
end Go.Proofs.YtagokfoimokniaaGreatDoor

namespace Go.Proofs.YtagokfoimokniaaGreatDoor
open Go.RowKit Go.Shelf Go.Maps Go.WideMaps
attribute [local go_sem] Oper.semAt_some

/-- All that lies from B on is as it was. -/
def SameFrom (B : Nat) (V V' : World) : Prop := ∀ k, B ≤ k → k < V.heap.size → V'.heap[k]? = V.heap[k]?

/-- What an iterator owes to one who ranges over it to its end: all of xs come, one by one; the round is asked to keep what lies below B, what the iterator itself has laid, and whatever is no cells. -/
def Tells {α : Type} (g : Nat) (lb : Array Value) (encs : α → Array Value) (B : Nat) (xs : List α) (w : World) : Prop :=
  ∀ (l : Nat) (J : List α → World → Prop) (W : World), Below B w W → OwnFrom W.heap.size J →
    (∀ pre x W1, J pre W1 → pre.length < 1048576 → YieldAt Fence.wide 0 Tryz.prog l (encs x) W1 fun e W' => e = .returned (.bool true) ∧ J (pre ++ [x]) W' ∧ Below B W1 W' ∧ KeepsOthers W1 W' ∧ SameFrom W.heap.size W1 W') → J [] W →
    Calls Tryz.prog g (#[.func (.yield l) #[] #[]] ++ lb) W fun e W' => (∃ v, e = .returned v) ∧ J xs W'

theorem round_any {n m l f : Nat} {tmps : Array Value} {assign body : Code} {w : World} {R : Ending → World → Prop} (h : RoundIn Fence.wide n Tryz.prog l f tmps assign body w R) : RoundIn Fence.wide m Tryz.prog l f tmps assign body w R :=
  ⟨trivial, fun c cs _ => h.2 c cs (fun d hd => by cases hd)⟩

theorem below_putObj {B l : Nat} {W : World} {o o' : Obj} (hB : B ≤ l) (hl : W.heap[l]? = some o) : Below B W (W.putObj l o') :=
  (Below.refl B W).grown (grownBy_putObj' W l o') (Nat.le_trans hB (Nat.le_of_lt (Array.getElem?_eq_some_iff.1 hl).1)) (fun k e => by cases e; exact hB)

/-- Who ranges to the end over an iterator that keeps its word. -/
theorem range_all {α : Type} {g : Operand} {ps : Array Tmp} {assign body : Code} {Q : Exit → Act → World → Prop} {a : Act} {w w0 : World} {B n : Nat} (h1 : 1 ≤ n) {gf : Nat} {lb : Array Value}
    (hg : a.eval g = .func (.func gf) #[] lb) (eg : ∀ args w, (callFunc gf args).run Tryz.prog w = .ok (.enter gf args) w) {encs : α → Array Value} {xs : List α} (hT : Tells gf lb encs B xs w0) (hb : Below B w0 w) (hB : B ≤ w.heap.size) (hps : ∀ x, (encs x).size = ps.size)
    (I : List α → World → Prop) (hI : OwnFrom w.heap.size I) (h0 : I [] w) (a₁ : α → Act)
    (hassign : ∀ (l : Nat) (x : α) (W : World) (K : Act → World → Prop), K (a₁ x) W →
      assign.wpIn (Fence.wide.inRound l) 1 Tryz.prog (Exit.then K (fun _ _ _ => False)) { tmps := (ps.zip (encs x)).foldl (fun t (p, v) => t.setIfInBounds p v) a.tmps, defers := [] } W)
    (hbody : ∀ (l : Nat) (pre : List α) (x : α) (W : World), I pre W → pre.length < 1048576 → body.wpIn (Fence.wide.inRound l) 1 Tryz.prog (fun e _ W' => e = .normal ∧ KeepsOthers W W' ∧ Below B W W' ∧ SameFrom w.heap.size W W' ∧ I (pre ++ [x]) W') (a₁ x) W)
    (hdone : ∀ (D : Nat) (W : World), w.heap.size ≤ D → I xs W → W.heap[D]? = some (.deferred (some [])) → Q .normal { a with defers := { target := .collected D, args := #[] } :: a.defers } W) :
    (Code.rangeFunc g ps assign body).wpIn Fence.wide n Tryz.prog Q a w := by
  refine wpIn_rangeFunc fun fn _ => ?_
  obtain ⟨rec, hrec⟩ : ∃ rec : LoopState → Loop, rec = fun st => { state := st, pending := none, fn, tmps := a.tmps, params := ps, assign, body, defers := w.heap.size } := ⟨_, rfl⟩
  obtain ⟨W1, hW1⟩ : ∃ W1, (w.alloc (.deferred (some []))).alloc (.loop (rec .ready)) = W1 := ⟨_, rfl⟩
  have hsz : W1.heap.size = w.heap.size + 2 := by rw [← hW1]; simp
  have hL1 : W1.heap[w.heap.size + 1]? = some (.loop (rec .ready)) := by
    rw [← hW1]; have := World.alloc_heap_new (w.alloc (.deferred (some []))) (.loop (rec .ready)); rwa [World.size_alloc] at this
  have hK1 : W1.heap[w.heap.size]? = some (.deferred (some [])) := by
    rw [← hW1]; exact (Below.heap_alloc _ _ _ (by simp)).trans (World.alloc_heap_new w _)
  have hI1 : I [] W1 := by rw [← hW1]; exact hI.alloc _ (hI.alloc _ h0)
  have hb1 : Below B w0 W1 := by
    rw [← hW1]; exact hb.trans (((Below.refl B w).alloc hB _).alloc (by simp; omega) _)
  refine ⟨w.heap.size + 1, [{ target := .collected w.heap.size, args := #[] }], W1, { target := .fn (.func gf) lb, args := #[.func (.yield (w.heap.size + 1)) #[] #[]] }, W1, gf,
    #[.func (.yield (w.heap.size + 1)) #[] #[]] ++ lb, W1, ?_, ?_, ?_, ?_, fun _ => h1, ?_⟩
  · rw [← hW1, hrec]; exact run_enterLoop_outer _ _ _ _ _
  · simp only [resolve, hg]
    simp [go_sem]
  · intro f' _; trivial
  · simp [invoke, go_sem, eg]
  refine (callsIn_wide.2 (hT (w.heap.size + 1) (fun pre W => I pre W ∧ W.heap[w.heap.size + 1]? = some (.loop (rec .ready)) ∧ W.heap[w.heap.size]? = some (.deferred (some []))) W1 hb1 ?_ ?_ ⟨hI1, hL1, hK1⟩)).mono ?_
  · rintro s A C row ⟨hi, hl, hk⟩ hgr hrow
    have hne : ∀ j, j < w.heap.size + 2 → j < A.heap.size → C.heap[j]? = A.heap[j]? := fun j hj hjA => hgr.block j hjA (fun e => by have := (hrow j e.symm).1; omega)
    refine ⟨hI s A C row hi hgr (fun r e => ⟨by have := (hrow r e).1; omega, (hrow r e).2⟩), (hne _ (by omega) (lt_of_block hl)).trans hl, (hne _ (by omega) (lt_of_block hk)).trans hk⟩
  · rintro pre x W ⟨hi, hl, hk⟩ hlen
    have hlt := lt_of_block hl
    have hy := run_yield (P := Tryz.prog) (args := encs x) hl (by rw [hrec]; exact hps x)
    rw [hrec] at hy
    refine ⟨fn, _, assign, body, hy, round_any (n := 1) (roundIn_of_wpIn trivial (hassign _ x W _ ⟨_, run_beginRound hl (by rw [hrec]), ?_⟩))⟩
    obtain ⟨Wb, hWb⟩ : ∃ Wb, W.putObj (w.heap.size + 1) (.loop (rec .busy)) = Wb := ⟨_, rfl⟩
    have eb : W.putObj (w.heap.size + 1) (.loop { rec .ready with state := .busy }) = Wb := by rw [← hWb, hrec]
    rw [eb]
    have hl2 : Wb.heap[w.heap.size + 1]? = some (.loop (rec .busy)) := by rw [← hWb]; exact World.putObj_heap_same hlt
    have hbb : Below B W Wb := by rw [← hWb]; exact below_putObj (by omega) hl
    have hib : I pre Wb := by rw [← hWb]; exact hI.putObj _ hi (by omega) hl rfl
    refine wpIn_mono (hbody _ pre x _ hib hlen) ?_
    rintro e a3 W3 ⟨rfl, hk3, hb3, hs3, hi3⟩
    have hl3 := hk3.same _ _ hl2 rfl
    have hr := run_endRound (P := Tryz.prog) none hl3
    have ee : W3.putObj (w.heap.size + 1) (.loop { rec .busy with state := if (none : Option Code).isNone then .ready else .done, pending := none }) = W3.putObj (w.heap.size + 1) (.loop (rec .ready)) := by rw [hrec]; rfl
    rw [ee] at hr
    refine ⟨_, _, hr, rfl, ⟨hI.putObj _ hi3 (by omega) hl3 rfl, World.putObj_heap_same (lt_of_block hl3), ?_⟩, (hbb.trans hb3).trans (below_putObj (by omega) hl3), ⟨?_, ?_⟩, ?_⟩
    · have h2 : Wb.heap[w.heap.size]? = some (.deferred (some [])) := by rw [← hWb]; exact (World.putObj_heap_other (by omega)).trans hk
      exact (World.putObj_heap_other (by omega)).trans (hk3.same _ _ h2 rfl)
    · have := (hbb.trans hb3).size
      exact Nat.le_trans this (below_putObj (B := B) (by omega) hl3).size
    · intro k o hk' ho
      by_cases e : k = w.heap.size + 1
      · subst e
        rw [hl] at hk'
        cases hk'
        exact World.putObj_heap_same (lt_of_block hl3)
      · have h2 : Wb.heap[k]? = some o := by rw [← hWb]; exact (World.putObj_heap_other (by omega)).trans hk'
        exact (World.putObj_heap_other (by omega)).trans (hk3.same _ _ h2 ho)
    · intro k hk' hkl
      have h2 : Wb.heap[k]? = W.heap[k]? := by rw [← hWb]; exact World.putObj_heap_other (by omega)
      exact (World.putObj_heap_other (by omega)).trans ((hs3 k (by omega) (Nat.lt_of_lt_of_le hkl hbb.size)).trans h2)
  · rintro e W2 ⟨⟨v, rfl⟩, hi, hl, hk⟩
    have hend := run_endLoop (P := Tryz.prog) hl (by rw [hrec]; simp)
    have hp : (rec .ready).pending = none := by rw [hrec]
    rw [hp] at hend
    exact ⟨none, _, hend, hdone w.heap.size _ (Nat.le_refl _) (hI.putObj _ hi (by omega) hl rfl) ((World.putObj_heap_other (by omega)).trans hk)⟩

end Go.Proofs.YtagokfoimokniaaGreatDoor
