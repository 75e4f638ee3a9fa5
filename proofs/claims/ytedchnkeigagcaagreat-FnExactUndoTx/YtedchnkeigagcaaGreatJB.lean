/- The specification takes coins out of a list: pieces of rows appended. The specification's TakeCoins. Some coins of a list, their keys where they were; the specification's l5Spent. The specification asks whether coins are just those that a transaction made. -/
import Derived.Test.YtedchnkeigagcaaGreatDi
import Derived.Test.YtedchnkeigagcaaGreatDa
import Derived.Test.YtedchnkeigagcaaGreatCz
import Derived.Test.YtedchnkeigagcaaGreatCh
import Derived.Test.YtedchnkeigagcaaGreatQa
import Derived.Lib.QuietBelow
import Derived.Test.YtedchnkeigagcaaGreatJC
namespace Go.Proofs.YtedchnkeigagcaaGreat
open Go.RowKit Go.Maps Go.WideMaps

/-- An append in a region, out of its own run. -/
theorem step_append_runD {P : Program} {w : World} {ops : Array Oper} {o : Oper} {a : Act} {K : Act → World → Prop} {Q : Exit → Act → World → Prop} {E : Prop} (hgd : o.guard = none) (s x : Operand) (t : TypeId)
    (hop : o.op = .call { callee := .builtin .append, args := #[s, x], argTypes := #[t, t] }) {v u v' : Value} {w' : World} (hs : a.eval s = v) (hx : a.eval x = u) (hrun : (Builtin.append_ #[t, t] o.type #[v, u]).run P w = .ok v' w') (h : K (a.put o.dst v') w') :
    if Region.wanted o (yielded ops a.tmps) = true then Oper.wp P o a w K Q else E := by
  rw [if_pos (by simp [Region.wanted, hgd])]
  unfold Oper.wp
  simp [execOp, hop, resolve, invoke, builtin, hs, hx, hrun, Result.andThen]
  exact h

theorem one_row {w : World} {lo hi n : Nat} {v : Value} {f : Nat → Co} {kv : Nat → Value} {xs : List Value} (h : COwn w lo hi v n f kv) (hl : xs.length = n * 8) (hc : ∀ j, j < n → CellsC xs j (f j) (kv j)) : ∀ u ∈ xs, u.oneCell' = true := by
  intro u hu
  obtain ⟨t, ht, e⟩ := List.getElem_of_mem hu
  have e2 : xs[t]? = some u := by rw [List.getElem?_eq_getElem ht, e]
  obtain ⟨a0, a1, a2, a3, a4, a5, a6, a7⟩ := hc (t / 8) (by omega)
  have hk : (kv (t / 8)).oneCell' = true := by
    rcases (h.keys (t / 8) (by omega)).1.2 with ⟨e1, _⟩ | ⟨g, c, cur, e1, _⟩ <;> rw [e1] <;> rfl
  have hd : t = t / 8 * 8 + t % 8 := by omega
  have h8 : t % 8 = 0 ∨ t % 8 = 1 ∨ t % 8 = 2 ∨ t % 8 = 3 ∨ t % 8 = 4 ∨ t % 8 = 5 ∨ t % 8 = 6 ∨ t % 8 = 7 := by omega
  rw [hd] at e2
  rcases h8 with h8 | h8 | h8 | h8 | h8 | h8 | h8 | h8 <;> rw [h8] at e2
  · rw [Nat.add_zero, a0] at e2; cases e2; rfl
  · rw [a1] at e2; cases e2; rfl
  · rw [a2] at e2; cases e2; rfl
  · rw [a3] at e2; cases e2; exact hk
  · rw [a4] at e2; cases e2; rfl
  · rw [a5] at e2; cases e2; rfl
  · rw [a6] at e2; cases e2; rfl
  · rw [a7] at e2; cases e2; rfl

/-- A part of a row of coins is appended to another. -/
theorem part_added {W : World} {lo lo' k g n cap off m o8 : Nat} {v : Value} {ys xs : List Value} (hv : W.ownsRow lo 72 8 v k ys) (hx : W.ownsRow lo' 72 8 (.slice (some ⟨g, 0, none⟩) n cap) n xs) (h1 : ∀ u ∈ xs, u.oneCell' = true) (hom : off + m ≤ n) (hb : k + m ≤ 1000) (hlo : lo ≤ W.heap.size) (ho8 : o8 = off * 8 ∨ m = 0) :
    ∃ v' w', (∀ c, (Builtin.append_ #[29, 29] 29 #[v, .slice (some ⟨g, o8, none⟩) m c]).run Tryz.prog W = .ok v' w') ∧ w'.ownsRow lo 72 8 v' (k + m) (ys ++ (xs.drop (off * 8)).take (m * 8)) ∧ W.grownBy w' v.ownBlock ∧ (v' = .slice none 0 0 ↔ v = .slice none 0 0 ∧ m = 0) := by
  obtain ⟨i0, hi, hz0, hz1, hz2⟩ := info_parts Tryz.infoCoin
  have hl := hx.1
  have hnl : ((xs.drop (off * 8)).take (m * 8)).length = m * 8 := by rw [List.length_take, List.length_drop, hl]; omega
  have hnew : ∀ j u, ((xs.drop (off * 8)).take (m * 8))[j]? = some u → W.cell? ((⟨g, o8, none⟩ : Addr).add j) = some u := fun j u hj => by
    have hjm : j < m * 8 := by
      have := (List.getElem?_eq_some_iff.1 hj).1
      rw [hnl] at this
      exact this
    rw [List.getElem?_take_of_lt hjm, List.getElem?_drop] at hj
    have ho : o8 = off * 8 := by rcases ho8 with h | h <;> omega
    have ea : (⟨g, o8, none⟩ : Addr).add j = ⟨g, off * 8 + j, none⟩ := by simp [Addr.add, ho]
    rw [ea, hx.cellAt (off * 8 + j) (by omega)]
    exact hj
  have hone : ∀ u ∈ (xs.drop (off * 8)).take (m * 8), u.oneCell' = true := fun u hu => h1 u (List.mem_of_mem_drop (List.mem_of_mem_take hu))
  obtain ⟨v', w', hrun, hown', hgrow, hnil⟩ := run_append_own (P := Tryz.prog) W lo 29 29 72 i0 (.agg #[.int .i64 0, .int .i64 0, .int .i64 0, .slice none 0 0, .int .i64 0, .int .i64 0, .int .i64 0, .bool false]) 8 80 Tryz.underlying29 hi hz0 hz1 hz2 rfl (by decide) v k ys hv ⟨g, o8, none⟩ m 0 _ hnl hnew hone (by unfold maxLen; omega) (by omega) hlo
  exact ⟨v', w', fun c => hrun, hown', hgrow, hnil⟩

theorem rows_keep {W w' : World} {lo k d : Nat} {v z : Value} {ys zs : List Value} (hg : W.grownBy w' v.ownBlock) (hv : W.ownsRow lo 72 8 v k ys) (hz : W.ownsRow lo 2 1 z d zs) : w'.ownsRow lo 2 1 z d zs :=
  hz.kept hg (by
    cases e : z.ownBlock with
    | none => exact .inl rfl
    | some b => exact .inr fun e2 => rows_apart (by decide) hv hz b e2.symm e)

end Go.Proofs.YtedchnkeigagcaaGreat

namespace Go.Proofs.YtedchnkeigagcaaGreat
open Go.RowKit Go.Maps Go.WideMaps

theorem has_find {ts : List Co} {r : Int × Int} : hasC ts r = (ts.find? fun c => decide ((c.p, c.q) = r)).isSome := by
  unfold hasC
  induction ts with
  | nil => rfl
  | cons x t ih =>
    rw [List.any_cons]
    by_cases e : (x.p, x.q) = r
    · rw [List.find?_cons_of_pos (by simp [e]), decide_eq_true e]; rfl
    · rw [List.find?_cons_of_neg (by simp [e]), decide_eq_false e, Bool.false_or]; exact ih

theorem own_at2 {w : World} {lo hi n : Nat} {a : Option Addr} {c : Nat} {cs : List Co} {kv : Nat → Value} (h : COwn w lo hi (.slice a n c) n (fun j => cs.getD j C0) kv) (hn : cs.length = n) (hl : ∀ j, j < n → (cs.getD j C0).l.length ≤ 1048576) : CAt w a n cs := by
  obtain ⟨a', c', e, h2⟩ := h.at hn (fun j _ => rfl) hl
  cases e
  exact h2

end Go.Proofs.YtedchnkeigagcaaGreat

namespace Go.Proofs.YtedchnkeigagcaaGreat
open Go.RowKit Go.Maps Go.WideMaps Go.Sort

/-- A row of one's own (from rb on) of coins whose keys lie from lo on, no two in one block. -/
structure SelR (W : World) (rb lo : Nat) (v : Value) (n : Nat) (f : Nat → Co) (kv : Nat → Value) : Prop where
  row : ∃ xs, W.ownsRow rb 72 8 v n xs ∧ ∀ j, j < n → CellsC xs j (f j) (kv j)
  keys : ∀ j, j < n → W.ownsRow lo 2 1 (kv j) (f j).l.length (ints (f j).l)
  apart : ∀ i j, i < j → j < n → ∀ b, (kv i).ownBlock = some b → (kv j).ownBlock ≠ some b
theorem SelR.own {W : World} {rb lo n : Nat} {v : Value} {f : Nat → Co} {kv : Nat → Value} (h : SelR W rb lo v n f kv) (hl : lo ≤ rb) : COwn W lo W.heap.size v n f kv := by
  obtain ⟨xs, h1, h2⟩ := h.row
  exact ⟨⟨xs, Joins.ownsRow_le h1 hl, h2⟩, fun b hb => (h1.lt b hb).2, fun j hj => ⟨h.keys j hj, fun b hb => ((h.keys j hj).lt b hb).2⟩, h.apart⟩
theorem SelR.below {w w' : World} {rb lo n : Nat} {v : Value} {f : Nat → Co} {kv : Nat → Value} (h : SelR w rb lo v n f kv) (hb : Below w.heap.size w w') : SelR w' rb lo v n f kv := by
  obtain ⟨xs, h1, h2⟩ := h.row
  exact ⟨⟨xs, h1.kept (grown_of_below hb) (by cases Value.ownBlock v <;> simp), h2⟩, fun j hj => (h.keys j hj).kept (grown_of_below hb) (by cases Value.ownBlock (kv j) <;> simp), h.apart⟩
theorem SelR.turned {W : World} {rb lo n : Nat} {v : Value} {f f' : Nat → Co} {kv : Nat → Value} (h : SelR W rb lo v n f kv) (hf : ∀ j, j < n → f' j = f j) : SelR W rb lo v n f' kv := by
  obtain ⟨xs, h1, h2⟩ := h.row
  exact ⟨⟨xs, h1, fun j hj => by rw [hf j hj]; exact h2 j hj⟩, fun j hj => by rw [hf j hj]; exact h.keys j hj, h.apart⟩

theorem sel_added {W : World} {rb lo X j : Nat} {v u : Value} {f : Nat → Co} {kv : Nat → Value} {o : Co} (hlr : lo ≤ rb) (h : SelR W rb lo v j f kv) (hX : W.heap[X]? = some (.cells #[.int .i64 o.p, .int .i64 o.q, .int .i64 o.v, u, .int .i64 o.x, .int .i64 o.y, .int .i64 o.h, .bool o.m] 72 (0, 0))) (hu1 : u.oneCell' = true) (hrow : W.ownsRow lo 2 1 u o.l.length (ints o.l)) (hap : ∀ i, i < j → ∀ b, (kv i).ownBlock = some b → u.ownBlock ≠ some b) (hj : j ≤ 1000) (hlo : rb ≤ W.heap.size) (hf : f j = o) :
    ∃ g cap w5, (Builtin.append_ #[29, 29] 29 #[v, .slice (some ⟨X, 0, none⟩) 1 1]).run Tryz.prog W = .ok (.slice (some ⟨g, 0, none⟩) (j + 1) cap) w5 ∧
      SelR w5 rb lo (.slice (some ⟨g, 0, none⟩) (j + 1) cap) (j + 1) f (fun i => if i = j then u else kv i) ∧ W.grownBy w5 v.ownBlock := by
  obtain ⟨i0, hi, hz0, hz1, hz2⟩ := info_parts Tryz.infoCoin
  obtain ⟨xs, hown, hcells⟩ := h.row
  obtain ⟨v', w5, hrun, hown', hgrow, hsome⟩ := run_append_own (P := Tryz.prog) W rb 29 29 72 i0 (.agg #[.int .i64 0, .int .i64 0, .int .i64 0, .slice none 0 0, .int .i64 0, .int .i64 0, .int .i64 0, .bool false]) 8 80 Tryz.underlying29 hi hz0 hz1 hz2 rfl (by decide) v j xs hown ⟨X, 0, none⟩ 1 1 [.int .i64 o.p, .int .i64 o.q, .int .i64 o.v, u, .int .i64 o.x, .int .i64 o.y, .int .i64 o.h, .bool o.m] rfl (World.news_of_block hX) (by
    intro z hz
    simp only [List.mem_cons, List.not_mem_nil, or_false] at hz
    rcases hz with rfl | rfl | rfl | rfl | rfl | rfl | rfl | rfl <;> first | rfl | exact hu1) (by unfold maxLen; omega) (by omega) hlo
  obtain ⟨g, cap, rfl⟩ := ownsRow_succ hown'
  have hxl := hown.1
  have kp : ∀ (z : Value) (d : Nat) (zs : List Value), W.ownsRow lo 2 1 z d zs → w5.ownsRow lo 2 1 z d zs := fun z d zs hz => hz.kept hgrow (by
    cases e : z.ownBlock with
    | none => exact .inl rfl
    | some b => exact .inr fun e2 => rows_apart (by decide) (Joins.ownsRow_le hown hlr) hz b e2.symm e)
  refine ⟨g, cap, w5, hrun, ⟨⟨_, hown', fun i hi => ?_⟩, fun i hi => ?_, fun i k hik hk b hb => ?_⟩, hgrow⟩
  · by_cases e : i = j
    · subst e
      rw [if_pos rfl, hf]
      refine ⟨?_, ?_, ?_, ?_, ?_, ?_, ?_, ?_⟩ <;> (rw [List.getElem?_append_right (by omega), hxl]; simp)
    · obtain ⟨a0, a1, a2, a3, a4, a5, a6, a7⟩ := hcells i (by omega)
      rw [if_neg e]
      refine ⟨?_, ?_, ?_, ?_, ?_, ?_, ?_, ?_⟩
      · rw [List.getElem?_append_left (by omega)]; exact a0
      · rw [List.getElem?_append_left (by omega)]; exact a1
      · rw [List.getElem?_append_left (by omega)]; exact a2
      · rw [List.getElem?_append_left (by omega)]; exact a3
      · rw [List.getElem?_append_left (by omega)]; exact a4
      · rw [List.getElem?_append_left (by omega)]; exact a5
      · rw [List.getElem?_append_left (by omega)]; exact a6
      · rw [List.getElem?_append_left (by omega)]; exact a7
  · show w5.ownsRow lo 2 1 (if i = j then u else kv i) _ _
    by_cases e : i = j
    · rw [if_pos e, e, hf]; exact kp _ _ _ hrow
    · rw [if_neg e]; exact kp _ _ _ (h.keys i (by omega))
  · change (if i = j then u else kv i).ownBlock = some b at hb
    show (if k = j then u else kv k).ownBlock ≠ some b
    rw [if_neg (by omega)] at hb
    by_cases e : k = j
    · rw [if_pos e]; exact hap i (by omega) b hb
    · rw [if_neg e]; exact h.apart i k hik (by omega) b hb

/-- Of the first j coins those that are wanted. -/
def SelM (W : World) (rb lo : Nat) (v : Value) (cs : List Co) (kv : Nat → Value) (p : Co → Bool) (j : Nat) : Prop :=
  ∃ kv', SelR W rb lo v ((cs.take j).filter p).length (fun t => ((cs.take j).filter p).getD t C0) kv' ∧ ∀ t, t < ((cs.take j).filter p).length → ∃ i, i < j ∧ kv' t = kv i
theorem SelM.below {w w' : World} {rb lo j : Nat} {v : Value} {cs : List Co} {kv : Nat → Value} {p : Co → Bool} (h : SelM w rb lo v cs kv p j) (hb : Below w.heap.size w w') : SelM w' rb lo v cs kv p j := by
  obtain ⟨kv', h1, h2⟩ := h
  exact ⟨kv', h1.below hb, h2⟩
theorem SelM.start {W : World} {rb lo X : Nat} {cs : List Co} {kv : Nat → Value} {p : Co → Bool} (hX : W.heap[X]? = some (.cells #[] 72 (0, 0))) (hr : rb ≤ X) : SelM W rb lo (.slice (some ⟨X, 0, none⟩) 0 0) cs kv p 0 :=
  ⟨fun _ => .slice none 0 0, ⟨⟨[], own_empty hX hr, fun j hj => (by simp at hj)⟩, fun j hj => (by simp at hj), fun i j _ hj => (by simp at hj)⟩, fun t ht => (by simp at ht)⟩
theorem take_oneC {cs : List Co} {n j : Nat} {o : Co} (hn : cs.length = n) (hlt : j < n) (ho : o = cs.getD j C0) : cs.take (j + 1) = cs.take j ++ [o] := by
  rw [List.take_add_one, ho, List.getD, List.getElem?_eq_getElem (by omega)]; rfl
theorem filt_yesC {cs : List Co} {n j : Nat} {o : Co} {p : Co → Bool} (hn : cs.length = n) (hlt : j < n) (ho : o = cs.getD j C0) (hp : p o = true) : (cs.take (j + 1)).filter p = (cs.take j).filter p ++ [o] := by
  rw [take_oneC hn hlt ho, List.filter_append]; simp [hp]
theorem filt_noC {cs : List Co} {n j : Nat} {o : Co} {p : Co → Bool} (hn : cs.length = n) (hlt : j < n) (ho : o = cs.getD j C0) (hp : p o = false) : (cs.take (j + 1)).filter p = (cs.take j).filter p := by
  rw [take_oneC hn hlt ho, List.filter_append]; simp [hp]
theorem SelM.skip {W : World} {rb lo n j : Nat} {v : Value} {cs : List Co} {kv : Nat → Value} {p : Co → Bool} {o : Co} (h : SelM W rb lo v cs kv p j) (hn : cs.length = n) (hlt : j < n) (ho : o = cs.getD j C0) (hp : p o = false) : SelM W rb lo v cs kv p (j + 1) := by
  obtain ⟨kv', h1, h2⟩ := h
  unfold SelM
  rw [filt_noC hn hlt ho hp]
  exact ⟨kv', h1, fun t ht => by obtain ⟨i, hi, e⟩ := h2 t ht; exact ⟨i, by omega, e⟩⟩
theorem SelM.add {W : World} {rb lo n j : Nat} {v : Value} {cs : List Co} {kv : Nat → Value} {p : Co → Bool} {o : Co} {u : Value} (h : SelM W rb lo v cs kv p j) (hlr : lo ≤ rb) (hn : cs.length = n) (hn2 : n ≤ 1000) (hlt : j < n) (ho : o = cs.getD j C0) (hp : p o = true) (hu : kv j = u) (hu1 : u.oneCell' = true) (hrow : W.ownsRow lo 2 1 u o.l.length (ints o.l)) (hap : ∀ i, i < j → ∀ b, (kv i).ownBlock = some b → (kv j).ownBlock ≠ some b) (hrb : rb ≤ W.heap.size) :
    ∃ g cap w5, (Builtin.append_ #[29, 29] 29 #[v, .slice (some ⟨W.heap.size, 0, none⟩) 1 1]).run Tryz.prog (W.alloc (.cells #[.int .i64 o.p, .int .i64 o.q, .int .i64 o.v, u, .int .i64 o.x, .int .i64 o.y, .int .i64 o.h, .bool o.m] 72)) = .ok (.slice (some ⟨g, 0, none⟩) (((cs.take j).filter p).length + 1) cap) w5 ∧
      Hid (SelM w5 rb lo (.slice (some ⟨g, 0, none⟩) (((cs.take j).filter p).length + 1) cap) cs kv p (j + 1) ∧ ((cs.take (j + 1)).filter p).length = ((cs.take j).filter p).length + 1 ∧ Below rb W w5) := by
  obtain ⟨kv', h1, h2⟩ := h
  obtain ⟨L, hL⟩ : ∃ L, L = (cs.take j).filter p := ⟨_, rfl⟩
  have hlen : L.length ≤ 1000 := by
    rw [hL]
    refine Nat.le_trans (List.length_filter_le _ _) ?_
    rw [List.length_take]
    omega
  have e5 := filt_yesC hn hlt ho hp
  rw [← hL] at h1 h2 e5 ⊢
  have hbx : Below W.heap.size W (W.alloc (.cells #[.int .i64 o.p, .int .i64 o.q, .int .i64 o.v, u, .int .i64 o.x, .int .i64 o.y, .int .i64 o.h, .bool o.m] 72)) := below_box _
  obtain ⟨xs, hrowv, _⟩ := h1.row
  have h3 := (h1.below hbx).turned (f' := fun t => (L ++ [o]).getD t C0) (fun t ht => by simp only [List.getD]; rw [List.getElem?_append_left ht])
  obtain ⟨g, cap, w5, r1, r2, r3⟩ := sel_added hlr h3 (heap_alloc_new W _) hu1 (hrow.alloc _) (fun i hi b hb => by
    obtain ⟨t, ht, e⟩ := h2 i hi
    rw [e] at hb
    rw [← hu]
    exact hap t ht b hb) hlen (by simp; omega) (by simp only [List.getD]; rw [List.getElem?_append_right (Nat.le_refl _)]; simp)
  refine ⟨g, cap, w5, r1, ⟨_, by rw [e5, List.length_append]; exact r2, fun t ht => ?_⟩, by rw [e5, List.length_append]; rfl, (hbx.mono hrb).grown r3 (by simp; omega) (fun k hk => (hrowv.lt k hk).1)⟩
  rw [e5, List.length_append] at ht
  show ∃ i, i < j + 1 ∧ (if t = L.length then u else kv' t) = kv i
  by_cases e : t = L.length
  · exact ⟨j, by omega, by rw [if_pos e]; exact hu.symm⟩
  · obtain ⟨i, hi, e2⟩ := h2 t (by simp at ht; omega)
    exact ⟨i, by omega, by rw [if_neg e]; exact e2⟩

def SpentO (w w' : World) (e : Ending) (cs : List Co) (rs : List (Int × Int)) : Prop :=
  ∃ va vc kv, e = .returned (.tuple #[.slice va (inC cs rs).length vc, .bool (decide ((inC cs rs).length = rs.length))]) ∧ COwn w' w.heap.size w'.heap.size (.slice va (inC cs rs).length vc) (inC cs rs).length (fun j => (inC cs rs).getD j C0) kv ∧ Below w.heap.size w w'
theorem own_slice4 {w : World} {lo hi n : Nat} {v : Value} {f : Nat → Co} {kv : Nat → Value} (h : COwn w lo hi v n f kv) : ∃ a c, v = .slice a n c := by
  obtain ⟨xs, h1, _⟩ := h.row
  rcases h1.2 with ⟨rfl, rfl⟩ | ⟨g, cap, cur, rfl, _⟩
  · exact ⟨none, 0, rfl⟩
  · exact ⟨_, cap, rfl⟩
theorem get_memC {ts : List Co} {m j : Nat} (hl : ts.length = m) (hj : j < m) : ts.getD j C0 ∈ ts := by
  rw [List.getD, List.getElem?_eq_getElem (by omega)]; exact List.getElem_mem _

set_option maxRecDepth 20000 in
set_option maxHeartbeats 4000000 in
theorem l5Spent_any (n c P nr cr lo hi : Nat) (a ia : Option Addr) (cs : List Co) (kv : Nat → Value) (rs : List (Int × Int)) (w : World) (hl : cs.length = n) (hn : n ≤ 40) (hok : ∀ c ∈ cs, coinR c = 0) (hO : COwn w lo hi (.slice a n c) n (fun j => cs.getD j C0) kv) (hlo : lo ≤ w.heap.size) (hnr : nr ≤ 1048576) (hG : GAt w ia nr rs) (hPl : P < w.heap.size) (hP : w.cell? ⟨P, 2, none⟩ = some (.slice ia nr cr)) :
    Calls Tryz.prog 23 #[.slice a n c, .pointer (some ⟨P, 0, none⟩)] w fun e w' => SpentO w w' e cs rs := by
  have hmix : Tryz.prog.follows .mixedOrders = true := by kernel_rfl
  have HL : Hid (cs.length = n) := hl
  have HOK : Hid (∀ c ∈ cs, coinR c = 0) := hok
  have HO : Hid (COwn w lo hi (.slice a n c) n (fun j => cs.getD j C0) kv) := hO
  have HG : Hid (GAt w ia nr rs) := hG
  have HE : Hid ((w.alloc (.cells #[] 72)).heap[w.heap.size]? = some (.cells #[] 72 (0, 0))) := heap_alloc_new _ _
  obtain ⟨pd, hpd⟩ : ∃ p : Co → Bool, p = fun c => memB rs (c.p, c.q) := ⟨_, rfl⟩
  have HPD : Hid (pd = fun c => memB rs (c.p, c.q)) := hpd
  have HP : Hid (w.cell? ⟨P, 2, none⟩ = some (.slice ia nr cr)) := hP
  clear hl hok hO hG hpd hP
  go_enter Tryz.func23, Tryz.ntmps23
  go_wp2
  go_loopw [6, 7] (fun v i wr => ∃ (j m g uc : Nat), j ≤ n ∧ i = .int .i64 j ∧ v = .slice (some ⟨g, 0, none⟩) m uc ∧ Hid (m = ((cs.take j).filter pd).length) ∧ Hid (SelM wr w.heap.size lo (.slice (some ⟨g, 0, none⟩) m uc) cs kv pd j) ∧ Below w.heap.size w wr) (fun _ i _ => n - (intOf i).toNat)
  case atStart => exact ⟨0, 0, w.heap.size, 0, Nat.zero_le _, rfl, rfl, rfl, SelM.start HE.out (Nat.le_refl _), below_box _⟩
  case round =>
    obtain ⟨j, m, g, uc, hj, rfl, rfl, HM, HS, hbel⟩ := hrel
    have q2 := (hbel.cell (p := ⟨P, 2, none⟩) hPl).trans HP.out
    by_cases hlt : j < n
    · have hOr := HO.out.below hbel
      obtain ⟨ga, ug, eg⟩ : ∃ g ug, (Value.slice a n c) = .slice (some ⟨g, 0, none⟩) n ug := by
        obtain ⟨xs, h1, _⟩ := hOr.row
        rcases h1.2 with ⟨e1, e2⟩ | ⟨g, cp, cur, e1, _⟩
        · omega
        · exact ⟨g, cp, e1⟩
      cases eg
      obtain ⟨o, ho⟩ : ∃ o, o = cs.getD j C0 := ⟨_, rfl⟩
      obtain ⟨ka, kn, kc, hkv⟩ : ∃ a n c, kv j = .slice a n c := by
        rcases (hOr.keys j hlt).1.2 with ⟨e1, _⟩ | ⟨g, cp, cur, e1, _⟩
        · exact ⟨none, 0, 0, e1⟩
        · exact ⟨_, _, _, e1⟩
      obtain ⟨⟨x0, x1, x2, x3, x4, x5, x6, x7⟩, _⟩ := hOr.cells hlt (show cs.getD j C0 = o from ho.symm) hkv
      have hrow := (hOr.keys j hlt).1
      have HAP : Hid (∀ i, i < j → ∀ b, (kv i).ownBlock = some b → (kv j).ownBlock ≠ some b) := fun i hi b hb => hOr.apart i j hi hlt b hb
      have hrow2 : wr.ownsRow lo 2 1 (.slice ka kn kc) o.l.length (ints o.l) := by rw [← hkv, ho]; exact hrow
      have HRW : Hid (wr.ownsRow lo 2 1 (.slice ka kn kc) o.l.length (ints o.l)) := hrow2
      have HKV : Hid (kv j = .slice ka kn kc) := hkv
      have HO1 : Hid (o = cs.getD j C0) := ho
      obtain ⟨mb, hmb⟩ : ∃ b, b = pd o := ⟨_, rfl⟩
      have HMB : Hid (mb = pd o) := hmb
      obtain ⟨op, oq, ov, ol, ox, oy, oh, om⟩ := o
      simp only at x0 x1 x2 x3 x4 x5 x6 x7
      have hgl : ga < wr.heap.size := block_lt_of_cell x0
      have y0 := cell_regrown x0
      have y1 := cell_regrown x1
      have y2 := cell_regrown q2
      have cA : ∀ dd os, Calls Tryz.prog 46 #[.slice ia nr cr, .agg #[.int .i64 op, .int .i64 oq]] (grow (redrawn wr dd) os) fun e w'' => e = .returned (.bool mb) ∧ ∃ p : Regrown, w'' = grow (redrawn wr p.d) p.os := fun dd os => Calls.regrown_of (by
        have := l3Among_any ia nr cr rs op oq (grow (redrawn wr dd) os) (by unfold maxLen; omega) ((HG.out.below hbel (Nat.le_refl _)).below (below_regrown wr dd os) (Nat.le_refl _))
        rw [HMB.out, HPD.out]
        exact this)
      have hki : (j : Int) < (n : Int) := by omega
      clear ho hkv hrow hrow2 hmb hOr
      cases mb
      · go_wp2_with fail
        refine wp_region_quiet_below hmix (by kernel_rfl) ?_
        repeat (go_big_quiet_step (first | exact cA _ _))
        refine wpQuiet_nil ?_
        intro V hw'
        have hbV : Below wr.heap.size wr V := by obtain ⟨⟨dq, osq⟩, hw''⟩ := hw'; rw [hw'']; exact below_regrown wr dq osq
        clear hw'
        go_wp2
        go_roundw
        case rel => exact ⟨j + 1, m, g, uc, by omega, by go_num, rfl, by show _ = _; rw [filt_noC HL.out hlt HO1.out HMB.out.symm]; exact HM.out, (HS.out.below hbV).skip HL.out hlt HO1.out HMB.out.symm, hbel.trans (hbV.mono hbel.size)⟩
        case measure => simp [intOf]; omega
      · go_wp2_with fail
        refine wp_region_quiet_below hmix (by kernel_rfl) ?_
        repeat (go_big_quiet_step (first | exact cA _ _))
        refine wpQuiet_nil ?_
        intro V hw'
        have hbV : Below wr.heap.size wr V := by obtain ⟨⟨dq, osq⟩, hw''⟩ := hw'; rw [hw'']; exact below_regrown wr dq osq
        clear hw' y0 y1 y2
        have z0 := (hbV.cell (p := ⟨ga, j * 8, none⟩) hgl).trans x0
        have z1 := (hbV.cell (p := ⟨ga, j * 8 + 1, none⟩) hgl).trans x1
        have z2 := (hbV.cell (p := ⟨ga, j * 8 + 2, none⟩) hgl).trans x2
        have z3 := (hbV.cell (p := ⟨ga, j * 8 + 3, none⟩) hgl).trans x3
        have z4 := (hbV.cell (p := ⟨ga, j * 8 + 4, none⟩) hgl).trans x4
        have z5 := (hbV.cell (p := ⟨ga, j * 8 + 5, none⟩) hgl).trans x5
        have z6 := (hbV.cell (p := ⟨ga, j * 8 + 6, none⟩) hgl).trans x6
        have z7 := (hbV.cell (p := ⟨ga, j * 8 + 7, none⟩) hgl).trans x7
        have HBV : Hid (Below w.heap.size w V) := hbel.trans (hbV.mono hbel.size)
        obtain ⟨g5, c5, w5, hrun, H5⟩ := (HS.out.below hbV).add hlo HL.out (by omega) hlt HO1.out HMB.out.symm HKV.out rfl (HRW.out.kept (grown_of_below hbV) (by cases Value.ownBlock (.slice ka kn kc) <;> simp)) HAP.out HBV.out.size
        rw [← HM.out] at hrun H5
        clear x0 x1 x2 x3 x4 x5 x6 x7 hbV
        go_wp2_with (first | (at_builtin; go_must (refine wpList_append_runC (by rfl) _ _ _ (by rfl) (by rfl) (by rfl) hrun ?_); clear hrun))
        go_roundw
        case rel => exact ⟨j + 1, m + 1, g5, c5, by omega, by go_num, rfl, H5.out.2.1.symm, H5.out.1, HBV.out.trans H5.out.2.2⟩
        case measure => simp [intOf]; omega
    · have hjn : cs.take j = cs := List.take_of_length_le (by rw [HL.out]; omega)
      have hin : (cs.take j).filter pd = inC cs rs := by rw [hjn, HPD.out]; rfl
      obtain ⟨ts, hts⟩ : ∃ t, t = inC cs rs := ⟨_, rfl⟩
      have hm : m = ts.length := by rw [HM.out, hin, hts]
      have htk : ∀ t, t < m → coinR (ts.getD t C0) = 0 := fun t ht => by
        have := get_memC (ts := ts) rfl (by omega : t < ts.length)
        rw [hts] at this ⊢
        exact HOK.out _ (List.mem_filter.1 this).1
      have hCA : CAt wr (some ⟨g, 0, none⟩) m ts := by
        obtain ⟨kv', h1, _⟩ := HS.out
        rw [hin, ← hts, ← hm] at h1
        refine own_at2 (h1.own hlo) hm.symm fun t ht => ?_
        have := (coin_more (htk t ht)).2.2.2
        omega
      have hmn : m ≤ 40 := by
        rw [hm, hts]
        have := List.length_filter_le (fun c : Co => memB rs (c.p, c.q)) cs
        have := HL.out
        unfold inC
        omega
      have hcp : Calls Tryz.prog 48 #[.slice (some ⟨g, 0, none⟩) m uc] wr.drew fun e w' => ∃ v, e = .returned v ∧ Hid (∃ kv, COwn w' wr.heap.size w'.heap.size v m (fun j => ts.getD j C0) kv) ∧ Below wr.heap.size wr w' :=
        (l4Copy_any m uc (some ⟨g, 0, none⟩) ts wr.drew (by omega) htk (hCA.below (Below.refl _ _).drew (Nat.le_refl _))).mono fun e w' ⟨v, kv, h1, h2, h3⟩ => ⟨v, h1, ⟨kv, by simpa using h2⟩, (Below.refl _ _).drew.trans h3⟩
      obtain ⟨tb, htb⟩ : ∃ b, b = decide (m = nr) := ⟨_, rfl⟩
      have hbe : ((m : Int) == (nr : Int)) = tb := by
        rw [htb]
        by_cases e : m = nr
        · rw [decide_eq_true e, e]; simp
        · rw [decide_eq_false e]; simpa using fun h => e (by omega)
      have HTB : Hid (tb = decide ((inC cs rs).length = rs.length)) := by show _ = _; rw [htb, hm, hts, HG.out.1]
      have HTS : Hid (ts = inC cs rs ∧ m = ts.length) := ⟨hts, hm⟩
      have HBE : Hid (Below w.heap.size w wr) := hbel
      have hPw : P < wr.heap.size := Nat.lt_of_lt_of_le hPl hbel.size
      have hki : ¬ (j : Int) < (n : Int) := by omega
      have hmI : ¬ 9223372036854775807 < m := by omega
      clear hjn hin hts hm htk hCA htb HS HM
      go_wp2
      go_region_held3 (fun w' => w'.cell? ⟨P, 2, none⟩ = some (.slice ia nr cr)) (go_keep)
        (first | (go_at_call 48; (with_reducible refine hcp.mono ?_); rintro e w7 ⟨v7, rfl, HO7, hb7⟩; have y2 := (hb7.cell (p := ⟨P, 2, none⟩) hPw).trans q2))
      go_wp2
      refine bodyPost_ret (v := .tuple #[v7, .bool tb]) (by simp [results, Tryz.results23, go_sem]) rfl ?_
      obtain ⟨kv7, hO7⟩ := HO7.out
      obtain ⟨va, vc, hv⟩ := own_slice4 hO7
      subst hv
      rw [HTB.out, HTS.out.2, HTS.out.1]
      rw [HTS.out.2, HTS.out.1] at hO7
      exact ⟨va, vc, kv7, rfl, by
        obtain ⟨xs, h1, h2⟩ := hO7.row
        exact ⟨⟨xs, Joins.ownsRow_le h1 HBE.out.size, h2⟩, hO7.top, fun j hj => ⟨Joins.ownsRow_le (hO7.keys j hj).1 HBE.out.size, (hO7.keys j hj).2⟩, hO7.apart⟩, HBE.out.trans (hb7.mono HBE.out.size)⟩

end Go.Proofs.YtedchnkeigagcaaGreat

namespace Go.Proofs.YtedchnkeigagcaaGreat
open Go.RowKit Go.Maps Go.WideMaps Go.Sort

theorem madeS_no {ms : List Co} {os : List Ou} {c : Co} (hc : c ∈ ms) (h : fitO os c = false) : madeS ms os = false := by
  unfold madeS
  rw [Bool.and_eq_false_iff]
  left
  rw [List.all_eq_false]
  exact ⟨c, hc, by rw [h]; exact Bool.false_ne_true⟩
theorem madeS_end {ms : List Co} {os : List Ou} (h : ∀ c ∈ ms, fitO os c = true) : madeS ms os = decide (ms.length = os.length) := by
  unfold madeS
  rw [List.all_eq_true.2 h, Bool.true_and]

set_option maxRecDepth 20000 in
set_option maxHeartbeats 4000000 in
theorem l5Made_any (n c P m d : Nat) (a oa : Option Addr) (cs : List Co) (os : List Ou) (id : Int) (w : World) (hn : n ≤ 40) (hok : ∀ c ∈ cs, coinR c = 0) (hC : CAt w a n cs) (_hm : m ≤ 1048576) (hk2 : ∀ j, j < m → (os.getD j O0).l.length ≤ 1048576) (hO : OAt w oa m os) (hPl : P < w.heap.size) (hP : w.cell? ⟨P, 3, none⟩ = some (.slice oa m d)) :
    Calls Tryz.prog 24 #[.slice a n c, .pointer (some ⟨P, 0, none⟩), .int .i64 id] w fun e w' => e = .returned (.bool (madeS (ofC cs id) os)) ∧ Below w.heap.size w w' := by
  have hmix : Tryz.prog.follows .mixedOrders = true := by kernel_rfl
  have HL : Hid (cs.length = n) := hC.1
  have HM : Hid (os.length = m) := hO.1
  have HOK : Hid (∀ c ∈ cs, coinR c = 0) := hok
  have HC : Hid (CAt w a n cs) := hC
  have HO : Hid (OAt w oa m os) := hO
  have HK2 : Hid (∀ j, j < m → (os.getD j O0).l.length ≤ 1048576) := hk2
  obtain ⟨pd, hpd⟩ : ∃ p : Co → Bool, p = fun c => decide (c.p = id) := ⟨_, rfl⟩
  have HPD : Hid (pd = fun c => decide (c.p = id)) := hpd
  have HP : Hid (w.cell? ⟨P, 3, none⟩ = some (.slice oa m d)) := hP
  clear hok hC hO hk2 hpd hP
  go_enter Tryz.func24, Tryz.ntmps24
  go_wp2
  go_loopw [7, 8] (fun v i wr => ∃ (j k : Nat), j ≤ n ∧ k ≤ j ∧ i = .int .i64 j ∧ v = .int .i64 k ∧ Hid (k = ((cs.take j).filter pd).length) ∧ Hid (∀ c ∈ (cs.take j).filter pd, fitO os c = true) ∧ Below w.heap.size w wr) (fun _ i _ => n - (intOf i).toNat)
  case atStart => exact ⟨0, 0, Nat.zero_le _, Nat.zero_le _, rfl, rfl, rfl, fun c hc => (by simp at hc), Below.refl _ _⟩
  case round =>
    obtain ⟨j, k, hj, hkj, rfl, rfl, HK, HF, hbel⟩ := hrel
    have q3 := (hbel.cell (p := ⟨P, 3, none⟩) hPl).trans HP.out
    by_cases hlt : j < n
    · rcases HC.out.2 with h0 | ⟨b, off, e0, l0, d0⟩
      · omega
      subst e0
      obtain ⟨o, ho⟩ : ∃ o, o = cs.getD j C0 := ⟨_, rfl⟩
      obtain ⟨ka, kc, p0, p4, p5⟩ := d0 j hlt
      rw [← ho] at p0 p4 p5
      have hmem : o ∈ cs := by rw [ho]; exact get_memC HL.out hlt
      obtain ⟨_, g2, g3, g4⟩ := coin_more (HOK.out o hmem)
      have HO1 : Hid (o = cs.getD j C0) := ho
      have HME : Hid (o ∈ cs) := hmem
      obtain ⟨op, oq, ov, ol, ox, oy, oh, om⟩ := o
      simp only at p0 p4 p5 g2 g3 g4
      obtain ⟨x0, x1, x2, x3, x4, x5, x6, x7⟩ := p0.below hbel l0
      simp only at x0 x1 x2 x3 x4 x5 x6 x7
      have hki : (j : Int) < (n : Int) := by omega
      have hwk : IntKind.i64.wrap ((k : Int) + 1) = (k : Int) + 1 := IntWalk.i64_in _ (by omega)
      by_cases hid : op = id
      · obtain ⟨t, ht⟩ : ∃ t : Nat, oq = (t : Int) := ⟨oq.toNat, by omega⟩
        subst ht
        have hyes : pd (⟨op, (t : Int), ov, ol, ox, oy, oh, om⟩ : Co) = true := by rw [HPD.out]; exact decide_eq_true hid
        have HFY : Hid ((cs.take (j + 1)).filter pd = (cs.take j).filter pd ++ [(⟨op, (t : Int), ov, ol, ox, oy, oh, om⟩ : Co)]) := filt_yesC HL.out hlt HO1.out hyes
        have HMO : Hid ((⟨op, (t : Int), ov, ol, ox, oy, oh, om⟩ : Co) ∈ ofC cs id) := List.mem_filter.2 ⟨HME.out, decide_eq_true hid⟩
        have hib : (op != id) = false := by simp [hid]
        have y1 := cell_regrown x1
        have y2 := cell_regrown x2
        have y3 := cell_regrown q3
        clear ho d0 p0 p4 hmem hyes hid
        by_cases htm : m ≤ t
        · have HFI : Hid (madeS (ofC cs id) os = false) := madeS_no HMO.out (by unfold fitO; rw [HM.out, decide_eq_false (by simp only; omega)]; rfl)
          have hti : (m : Int) ≤ (t : Int) := by omega
          have htd : decide ((t : Int) ≥ (m : Int)) = true := decide_eq_true (by omega)
          go_wp2_with fail
          refine wp_region_quiet_below hmix (by kernel_rfl) ?_
          repeat (go_big_quiet_step (fail))
          refine wpQuiet_nil ?_
          intro V hw'
          have hbV : Below wr.heap.size wr V := by obtain ⟨⟨dq, osq⟩, hw''⟩ := hw'; rw [hw'']; exact below_regrown wr dq osq
          clear hw'
          go_wp2
          go_ret
          exact ⟨by rw [HFI.out]; rfl, hbel.trans (hbV.mono hbel.size)⟩
        · have htl : t < m := by omega
          rcases HO.out.2 with h0 | ⟨b2, off2, e0, l2, d2⟩
          · omega
          subst e0
          obtain ⟨u, hu⟩ : ∃ u, u = os.getD t O0 := ⟨_, rfl⟩
          obtain ⟨va, vn, vc, r0, r1, r2, r3, r4, r5⟩ := d2 t htl
          rw [← hu] at r0 r2 r3 r5
          have hl2 := HK2.out t htl
          rw [← hu, r5.1] at hl2
          have HFT : Hid (fitO os (⟨op, (t : Int), ov, ol, ox, oy, oh, om⟩ : Co) = sameO ⟨ov, ol, ox, oy⟩ u) := by
            show fitO _ _ = _
            unfold fitO
            rw [HM.out, decide_eq_true (by simp only; omega), Bool.true_and]
            show sameO _ (os.getD ((t : Int)).toNat O0) = _
            rw [Int.toNat_natCast, ← hu]; rfl
          obtain ⟨uv, ul, ux, uy⟩ := u
          simp only at r0 r2 r3 r5 hl2
          have s0 := (hbel.cell (p := ⟨b2, off2 + t * 4, none⟩) l2).trans r0
          have s1 := (hbel.cell (p := ⟨b2, off2 + t * 4 + 1, none⟩) l2).trans r1
          have s2 := (hbel.cell (p := ⟨b2, off2 + t * 4 + 2, none⟩) l2).trans r2
          have s3 := (hbel.cell (p := ⟨b2, off2 + t * 4 + 3, none⟩) l2).trans r3
          have z0 := cell_regrown s0
          have hti : ¬ (m : Int) ≤ (t : Int) := by omega
          have htj : (t : Int) < (m : Int) := by omega
          have htz : ¬ (t : Int) < 0 := by omega
          have htd : decide (m ≤ t) = false := decide_eq_false htm
          have hbw : b < wr.heap.size := Nat.lt_of_lt_of_le l0 hbel.size
          have hbw2 : b2 < wr.heap.size := Nat.lt_of_lt_of_le l2 hbel.size
          obtain ⟨sb, hsb⟩ : ∃ s, s = sameR ol ul ox ux oy uy := ⟨_, rfl⟩
          have HSB : Hid (sb = sameR ol ul ox ux oy uy) := hsb
          have cS : ∀ dd os, Calls Tryz.prog 49 #[.pointer (some ⟨b, off + j * 8 + 3, none⟩), .pointer (some ⟨b2, off2 + t * 4 + 1, none⟩)] (grow (redrawn wr dd) os) fun e w'' => e = .returned (.bool sb) ∧ ∃ p : Regrown, w'' = grow (redrawn wr p.d) p.os := fun dd os => Calls.regrown_of (by
            have hb := below_regrown wr dd os
            rw [hsb]
            exact l2SameAt_any b b2 (off + j * 8 + 3) (off2 + t * 4 + 1) ka va ol.length vn kc vc ol ul ox ux oy uy (grow (redrawn wr dd) os) (by omega) hl2 ((p5.below hbel (Nat.le_refl _)).below hb (Nat.le_refl _)) ((r5.below hbel (Nat.le_refl _)).below hb (Nat.le_refl _)) (Nat.lt_of_lt_of_le hbw hb.size) (Nat.lt_of_lt_of_le hbw2 hb.size)
              (cell_regrown x3 dd os) (cell_regrown x4 dd os) (cell_regrown x5 dd os) (cell_regrown s1 dd os) (cell_regrown s2 dd os) (cell_regrown s3 dd os))
          clear hu d2 r0 r1 r2 r3 r4 hsb
          by_cases hv : ov = uv
          · have hvb : (ov != uv) = false := by simp [hv]
            cases sb
            · have HFI : Hid (madeS (ofC cs id) os = false) := madeS_no HMO.out (by rw [HFT.out]; unfold sameO; rw [← HSB.out]; simp)
              clear hv
              go_wp2_with fail
              refine wp_region_quiet_below hmix (by kernel_rfl) ?_
              repeat (go_big_quiet_step (first | exact cS _ _))
              refine wpQuiet_nil ?_
              intro V hw'
              have hbV : Below wr.heap.size wr V := by obtain ⟨⟨dq, osq⟩, hw''⟩ := hw'; rw [hw'']; exact below_regrown wr dq osq
              clear hw'
              go_wp2
              go_ret
              exact ⟨by rw [HFI.out]; rfl, hbel.trans (hbV.mono hbel.size)⟩
            · have HFO : Hid (fitO os (⟨op, (t : Int), ov, ol, ox, oy, oh, om⟩ : Co) = true) := by show fitO _ _ = _; rw [HFT.out]; unfold sameO; rw [← HSB.out, decide_eq_true hv]; rfl
              clear hv
              go_wp2_with fail
              refine wp_region_quiet_below hmix (by kernel_rfl) ?_
              repeat (go_big_quiet_step (first | exact cS _ _))
              refine wpQuiet_nil ?_
              intro V hw'
              have hbV : Below wr.heap.size wr V := by obtain ⟨⟨dq, osq⟩, hw''⟩ := hw'; rw [hw'']; exact below_regrown wr dq osq
              clear hw'
              go_wp2
              go_roundw
              case rel => exact ⟨j + 1, k + 1, by omega, by omega, by go_num, by go_num, by show _ = _; rw [HFY.out, List.length_append, ← HK.out]; rfl, fun c hc => (by
                rw [HFY.out] at hc
                rcases List.mem_append.1 hc with hc | hc
                · exact HF.out c hc
                · rw [List.mem_singleton.1 hc]; exact HFO.out), hbel.trans (hbV.mono hbel.size)⟩
              case measure => simp [intOf]; omega
          · have hvb : (ov != uv) = true := by simpa using hv
            have HFI : Hid (madeS (ofC cs id) os = false) := madeS_no HMO.out (by rw [HFT.out]; unfold sameO; rw [decide_eq_false hv]; rfl)
            clear hv
            go_wp2_with fail
            refine wp_region_quiet_below hmix (by kernel_rfl) ?_
            repeat (go_big_quiet_step (first | exact cS _ _))
            refine wpQuiet_nil ?_
            intro V hw'
            have hbV : Below wr.heap.size wr V := by obtain ⟨⟨dq, osq⟩, hw''⟩ := hw'; rw [hw'']; exact below_regrown wr dq osq
            clear hw'
            go_wp2
            go_ret
            exact ⟨by rw [HFI.out]; rfl, hbel.trans (hbV.mono hbel.size)⟩
      · have hib : (op != id) = true := by simpa using hid
        have HFN : Hid ((cs.take (j + 1)).filter pd = (cs.take j).filter pd) := filt_noC HL.out hlt HO1.out (by rw [HPD.out]; exact decide_eq_false hid)
        clear ho d0 p0 p4 p5 hmem hid
        go_wp2
        go_roundw
        case rel => exact ⟨j + 1, k, by omega, by omega, by go_num, rfl, by show _ = _; rw [HFN.out]; exact HK.out, fun c hc => (by rw [HFN.out] at hc; exact HF.out c hc), hbel⟩
        case measure => simp [intOf]; omega
    · have hin : (cs.take j).filter pd = ofC cs id := by rw [List.take_of_length_le (by rw [HL.out]; omega), HPD.out]; rfl
      have hf := HF.out
      rw [hin] at hf
      obtain ⟨tb, htb⟩ : ∃ b, b = decide (k = m) := ⟨_, rfl⟩
      have hbe : ((k : Int) == (m : Int)) = tb := by
        rw [htb]
        by_cases e : k = m
        · rw [decide_eq_true e, e]; simp
        · rw [decide_eq_false e]; simpa using fun h => e (by omega)
      have HFI : Hid (madeS (ofC cs id) os = tb) := by show _ = _; rw [madeS_end hf, htb, HM.out, HK.out, hin]
      have hki : ¬ (j : Int) < (n : Int) := by omega
      clear hin hf htb
      go_wp2
      go_ret
      exact ⟨by rw [HFI.out, ← hbe]; rfl, hbel⟩

end Go.Proofs.YtedchnkeigagcaaGreat
