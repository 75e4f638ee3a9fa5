/- The specification adds a coin to a list of coins. -/
import Derived.Test.YtdfijlcjmllplaaDs
import Derived.Test.YtdfijlcjmllplaaDj
import Derived.Test.YtdfijlcjmllplaaJn5
import Derived.Test.YtdfijlcjmllplaaJn3
namespace Go.Proofs.Ytdfijlcjmllplaa
open Go.RowKit Go.Maps Go.WideMaps

theorem cmpR_negP {a b c d : Int} : cmpR (a, b) (c, d) < 0 ↔ 0 < cmpR (c, d) (a, b) := by rw [cmpR_neg, cmpR_pos]
theorem addC_split {x : Co} : ∀ {ts : List Co} {k : Nat}, k ≤ ts.length → (∀ t, t < k → 0 < cmpR (x.p, x.q) ((ts.getD t C0).p, (ts.getD t C0).q)) → (k < ts.length → ¬ 0 < cmpR (x.p, x.q) ((ts.getD k C0).p, (ts.getD k C0).q)) → addC ts x = ts.take k ++ x :: ts.drop k
  | [], k, hk, _, _ => by simp at hk; subst hk; rfl
  | a :: l, 0, _, _, h2 => by
    have this : ¬ 0 < cmpR (x.p, x.q) (a.p, a.q) := h2 (by simp)
    unfold addC
    rw [if_neg (fun e => this (cmpR_negP.1 e))]
    rfl
  | a :: l, k + 1, hk, h1, h2 => by
    have h0 : 0 < cmpR (x.p, x.q) (a.p, a.q) := h1 0 (by omega)
    unfold addC
    rw [if_pos (cmpR_negP.2 h0), addC_split (k := k) (by simpa using hk) (fun t ht => h1 (t + 1) (by omega)) (fun h => h2 (by simpa using h))]
    rfl
theorem put_get {ts : List Co} {x : Co} {n k j : Nat} (hn : ts.length = n) (hk : k ≤ n) : (ts.take k ++ x :: ts.drop k).getD j C0 = if j < k then ts.getD j C0 else if j = k then x else ts.getD (j - 1) C0 := by
  have hl : (ts.take k).length = k := by rw [List.length_take]; omega
  simp only [List.getD]
  by_cases h1 : j < k
  · rw [if_pos h1, List.getElem?_append_left (by omega), List.getElem?_take_of_lt h1]
  · rw [if_neg h1, List.getElem?_append_right (by omega), hl]
    by_cases h2 : j = k
    · subst h2; rw [if_pos rfl]; simp
    · rw [if_neg h2]
      obtain ⟨d, hd⟩ : ∃ d, j - k = d + 1 := ⟨j - k - 1, by omega⟩
      rw [hd, List.getElem?_cons_succ, List.getElem?_drop]
      congr 2
      omega

/-- Whose keys they are: the new coin's or an older one's. -/
def FromK (kv' kv : Nat → Value) (ku : Value) (n : Nat) : Prop := ∀ i, i < n + 1 → kv' i = ku ∨ ∃ t, t < n ∧ kv' i = kv t

set_option maxHeartbeats 2000000 in
/-- A coin is put into a list of coins: the three appends, and what they leave. -/
theorem coin_put {W : World} {lo X g n cap k o8 : Nat} {ts : List Co} {kv : Nat → Value} {x : Co} {ku : Value} (hl : ts.length = n) (h : COwn W lo X (.slice (some ⟨g, 0, none⟩) n cap) n (fun j => ts.getD j C0) kv) (hX : W.heap[X]? = some (.cells #[] 41 (0, 0))) (hlo : lo ≤ X) (hk : k ≤ n) (hn : n ≤ 500)
    (hku : W.ownsRow lo 2 1 ku x.l.length (ints x.l)) (hku1 : ku.oneCell' = true) (hap : ∀ i, i < n → ∀ b, (kv i).ownBlock = some b → ku.ownBlock ≠ some b) (ho8 : o8 = k * 8 ∨ n = k) :
    ∃ g1 c1 w3 g2 c2 w5 g3 c3 w6, (∀ c, (Builtin.append_ #[24, 24] 24 #[.slice (some ⟨X, 0, none⟩) 0 0, .slice (some ⟨g, 0, none⟩) k c]).run Try.prog W = .ok (.slice (some ⟨g1, 0, none⟩) k c1) w3) ∧
      ((Builtin.append_ #[24, 24] 24 #[.slice (some ⟨g1, 0, none⟩) k c1, .slice (some ⟨w3.heap.size, 0, none⟩) 1 1]).run Try.prog (w3.alloc (.cells #[.int .i64 x.p, .int .i64 x.q, .int .i64 x.v, ku, .int .i64 x.x, .int .i64 x.y, .int .i64 x.h, .bool x.m] 41)).drew = .ok (.slice (some ⟨g2, 0, none⟩) (k + 1) c2) w5) ∧
      (∀ c m, m = n - k → (Builtin.append_ #[24, 24] 24 #[.slice (some ⟨g2, 0, none⟩) (k + 1) c2, .slice (some ⟨g, o8, none⟩) m c]).run Try.prog w5 = .ok (.slice (some ⟨g3, 0, none⟩) (n + 1) c3) w6) ∧
      W.grownBy w3 (some X) ∧ Hid ((∃ kv', COwn w6 lo w6.heap.size (.slice (some ⟨g3, 0, none⟩) (n + 1) c3) (n + 1) (fun j => (ts.take k ++ x :: ts.drop k).getD j C0) kv' ∧ FromK kv' kv ku n) ∧ Below X W w6) := by
  obtain ⟨xs, hrow, hc⟩ := h.row
  have hone := one_row h hrow.1 hc
  have hXl := lt_of_block hX
  have hgX : g < X := h.top g rfl
  have hE := own_empty (base := X) (size := 8) hX (Nat.le_refl _)
  -- the first append
  obtain ⟨v1, w3, hr1, ho1, hg1, hn1⟩ := part_added (off := 0) (m := k) (o8 := 0) hE hrow hone (by omega) (by omega) (by omega) (by omega)
  have e1 : v1 ≠ .slice none 0 0 := fun e => by have := (hn1.1 e).1; cases this
  rw [Nat.zero_add, Nat.zero_mul, List.drop_zero, List.nil_append] at ho1
  obtain ⟨g1, c1, rfl⟩ : ∃ g1 c1, v1 = .slice (some ⟨g1, 0, none⟩) k c1 := by
    rcases ho1.2 with ⟨e, _⟩ | ⟨g1, c1, cur, e, _⟩
    · exact absurd e e1
    · exact ⟨g1, c1, e⟩
  have hg1X : X ≤ g1 := (ho1.lt g1 rfl).1
  have hrow3 : w3.ownsRow lo 41 8 (.slice (some ⟨g, 0, none⟩) n cap) n xs := hrow.kept hg1 (.inr (by
    intro e
    have e2 : some g = some X := e
    have := Option.some.inj e2
    omega))
  have hs3 := hg1.size
  have hElo := Joins.ownsRow_le hE hlo
  have b3 : Below X W w3 := (Below.refl X W).grown hg1 (by omega) (fun b e => by
    have e2 : some X = some b := e
    cases e2
    exact Nat.le_refl _)
  -- the coin in its block
  have hbx : Below w3.heap.size w3 (w3.alloc (.cells #[.int .i64 x.p, .int .i64 x.q, .int .i64 x.v, ku, .int .i64 x.x, .int .i64 x.y, .int .i64 x.h, .bool x.m] 41)).drew := (below_box _).trans ((Below.refl _ _).drew)
  have hs4 : (w3.alloc (.cells #[.int .i64 x.p, .int .i64 x.q, .int .i64 x.v, ku, .int .i64 x.x, .int .i64 x.y, .int .i64 x.h, .bool x.m] 41)).drew.heap.size = w3.heap.size + 1 := by simp
  have hX4 : (w3.alloc (.cells #[.int .i64 x.p, .int .i64 x.q, .int .i64 x.v, ku, .int .i64 x.x, .int .i64 x.y, .int .i64 x.h, .bool x.m] 41)).drew.heap[w3.heap.size]? = some (.cells #[.int .i64 x.p, .int .i64 x.q, .int .i64 x.v, ku, .int .i64 x.x, .int .i64 x.y, .int .i64 x.h, .bool x.m] 41 (0, 0)) := heap_alloc_new w3 (.cells #[.int .i64 x.p, .int .i64 x.q, .int .i64 x.v, ku, .int .i64 x.x, .int .i64 x.y, .int .i64 x.h, .bool x.m] 41)
  have ho4 : (w3.alloc (.cells #[.int .i64 x.p, .int .i64 x.q, .int .i64 x.v, ku, .int .i64 x.x, .int .i64 x.y, .int .i64 x.h, .bool x.m] 41)).drew.ownsRow X 41 8 (.slice (some ⟨g1, 0, none⟩) k c1) k (xs.take (k * 8)) := ho1.kept (grown_of_below hbx) (by cases Value.ownBlock (.slice (some ⟨g1, 0, none⟩) k c1) <;> simp)
  have hrow4 : (w3.alloc (.cells #[.int .i64 x.p, .int .i64 x.q, .int .i64 x.v, ku, .int .i64 x.x, .int .i64 x.y, .int .i64 x.h, .bool x.m] 41)).drew.ownsRow lo 41 8 (.slice (some ⟨g, 0, none⟩) n cap) n xs := hrow3.kept (grown_of_below hbx) (by cases Value.ownBlock (.slice (some ⟨g, 0, none⟩) n cap) <;> simp)
  -- the second append
  obtain ⟨i0, hi, hz0, hz1, hz2⟩ := info_parts Try.infoCoin
  obtain ⟨v2, w5, hr2, ho5, hg5, hn5⟩ := run_append_own (P := Try.prog) (w3.alloc (.cells #[.int .i64 x.p, .int .i64 x.q, .int .i64 x.v, ku, .int .i64 x.x, .int .i64 x.y, .int .i64 x.h, .bool x.m] 41)).drew X 24 24 41 i0 (.agg #[.int .i64 0, .int .i64 0, .int .i64 0, .slice none 0 0, .int .i64 0, .int .i64 0, .int .i64 0, .bool false]) 8 80 Try.underlying24 hi hz0 hz1 hz2 rfl (by decide) _ k _ ho4 ⟨w3.heap.size, 0, none⟩ 1 1 ([.int .i64 x.p, .int .i64 x.q, .int .i64 x.v, ku, .int .i64 x.x, .int .i64 x.y, .int .i64 x.h, .bool x.m] : List Value) rfl (World.news_of_block hX4) (by
    intro z hz
    simp only [List.mem_cons, List.not_mem_nil, or_false] at hz
    rcases hz with rfl | rfl | rfl | rfl | rfl | rfl | rfl | rfl <;> first | rfl | exact hku1) (by unfold maxLen; omega) (by omega) (by omega)
  obtain ⟨g2, c2, rfl⟩ := ownsRow_succ ho5
  have hs5 := hg5.size
  have hrow5 : w5.ownsRow lo 41 8 (.slice (some ⟨g, 0, none⟩) n cap) n xs := hrow4.kept hg5 (.inr (by
    intro e
    have e2 : some g = some g1 := e
    have := Option.some.inj e2
    omega))
  -- the third append
  obtain ⟨v3, w6, hr3, ho6, hg6, hn6⟩ := part_added (off := k) (m := n - k) (o8 := o8) ho5 hrow5 hone (by omega) (by omega) (by omega) (by omega)
  have e3 : v3 ≠ .slice none 0 0 := fun e => by have := (hn6.1 e).1; cases this
  have hkn : k + 1 + (n - k) = n + 1 := by omega
  rw [hkn] at ho6
  obtain ⟨g3, c3, rfl⟩ : ∃ g3 c3, v3 = .slice (some ⟨g3, 0, none⟩) (n + 1) c3 := by
    rcases ho6.2 with ⟨e, _⟩ | ⟨g3, c3, cur, e, _⟩
    · exact absurd e e3
    · exact ⟨g3, c3, e⟩
  have kp : ∀ (z : Value) (d : Nat) (zs : List Value), W.ownsRow lo 2 1 z d zs → w6.ownsRow lo 2 1 z d zs := fun z d zs hz =>
    rows_keep hg6 (Joins.ownsRow_le ho5 hlo) (rows_keep hg5 (Joins.ownsRow_le ho4 hlo) ((rows_keep hg1 hElo hz).kept (grown_of_below hbx) (by cases Value.ownBlock z <;> simp)))
  refine ⟨g1, c1, w3, g2, c2, w5, g3, c3, w6, hr1, hr2, fun c m hm => ?_, hg1, ⟨⟨fun j => if j < k then kv j else if j = k then ku else kv (j - 1), ⟨⟨_, Joins.ownsRow_le ho6 hlo, fun j hj => ?_⟩, fun b hb => (ho6.lt b hb).2, fun j hj => ?_, fun i j hij hj b hb => ?_⟩, fun i hi => ?_⟩, ?_⟩⟩
  · subst hm
    exact hr3 c
  · have hxl := hrow.1
    have hlt : (xs.take (k * 8)).length = k * 8 := by rw [List.length_take]; omega
    show CellsC _ j ((ts.take k ++ x :: ts.drop k).getD j C0) (if j < k then kv j else if j = k then ku else kv (j - 1))
    rw [put_get hl hk]
    by_cases e : j < k
    · rw [if_pos e, if_pos e]
      obtain ⟨a0, a1, a2, a3, a4, a5, a6, a7⟩ := hc j (by omega)
      have gg : ∀ i, i < 8 → (xs.take (k * 8) ++ ([.int .i64 x.p, .int .i64 x.q, .int .i64 x.v, ku, .int .i64 x.x, .int .i64 x.y, .int .i64 x.h, .bool x.m] : List Value) ++ (xs.drop (k * 8)).take ((n - k) * 8))[j * 8 + i]? = xs[j * 8 + i]? := fun i hi => by
        rw [List.append_assoc, List.getElem?_append_left (by omega), List.getElem?_take_of_lt (by omega)]
      exact ⟨(gg 0 (by omega)).trans a0, (gg 1 (by omega)).trans a1, (gg 2 (by omega)).trans a2, (gg 3 (by omega)).trans a3, (gg 4 (by omega)).trans a4, (gg 5 (by omega)).trans a5, (gg 6 (by omega)).trans a6, (gg 7 (by omega)).trans a7⟩
    · rw [if_neg e, if_neg e]
      by_cases e2 : j = k
      · subst e2
        rw [if_pos rfl, if_pos rfl]
        have gg : ∀ i, i < 8 → (xs.take (j * 8) ++ ([.int .i64 x.p, .int .i64 x.q, .int .i64 x.v, ku, .int .i64 x.x, .int .i64 x.y, .int .i64 x.h, .bool x.m] : List Value) ++ (xs.drop (j * 8)).take ((n - j) * 8))[j * 8 + i]? = ([.int .i64 x.p, .int .i64 x.q, .int .i64 x.v, ku, .int .i64 x.x, .int .i64 x.y, .int .i64 x.h, .bool x.m] : List Value)[i]? := fun i hi => by
          rw [List.append_assoc, List.getElem?_append_right (by omega), hlt, Nat.add_sub_cancel_left, List.getElem?_append_left (by simpa using hi)]
        exact ⟨gg 0 (by omega), gg 1 (by omega), gg 2 (by omega), gg 3 (by omega), gg 4 (by omega), gg 5 (by omega), gg 6 (by omega), gg 7 (by omega)⟩
      · rw [if_neg e2, if_neg e2]
        obtain ⟨a0, a1, a2, a3, a4, a5, a6, a7⟩ := hc (j - 1) (by omega)
        have gg : ∀ i, i < 8 → (xs.take (k * 8) ++ ([.int .i64 x.p, .int .i64 x.q, .int .i64 x.v, ku, .int .i64 x.x, .int .i64 x.y, .int .i64 x.h, .bool x.m] : List Value) ++ (xs.drop (k * 8)).take ((n - k) * 8))[j * 8 + i]? = xs[(j - 1) * 8 + i]? := fun i hi => by
          have hl2 : (xs.take (k * 8) ++ ([.int .i64 x.p, .int .i64 x.q, .int .i64 x.v, ku, .int .i64 x.x, .int .i64 x.y, .int .i64 x.h, .bool x.m] : List Value)).length = k * 8 + 8 := by rw [List.length_append, hlt]; rfl
          rw [List.getElem?_append_right (by omega), hl2, List.getElem?_take_of_lt (by omega), List.getElem?_drop]
          rw [show k * 8 + (j * 8 + i - (k * 8 + 8)) = (j - 1) * 8 + i by omega]
        exact ⟨(gg 0 (by omega)).trans a0, (gg 1 (by omega)).trans a1, (gg 2 (by omega)).trans a2, (gg 3 (by omega)).trans a3, (gg 4 (by omega)).trans a4, (gg 5 (by omega)).trans a5, (gg 6 (by omega)).trans a6, (gg 7 (by omega)).trans a7⟩
  · show w6.ownsRow lo 2 1 (if j < k then kv j else if j = k then ku else kv (j - 1)) ((ts.take k ++ x :: ts.drop k).getD j C0).l.length (ints ((ts.take k ++ x :: ts.drop k).getD j C0).l) ∧ _
    rw [put_get hl hk]
    by_cases e : j < k
    · rw [if_pos e, if_pos e]
      have := kp _ _ _ (h.keys j (by omega)).1
      exact ⟨this, fun b hb => (this.lt b hb).2⟩
    · rw [if_neg e, if_neg e]
      by_cases e2 : j = k
      · rw [if_pos e2, if_pos e2]
        have := kp _ _ _ hku
        exact ⟨this, fun b hb => (this.lt b hb).2⟩
      · rw [if_neg e2, if_neg e2]
        have := kp _ _ _ (h.keys (j - 1) (by omega)).1
        exact ⟨this, fun b hb => (this.lt b hb).2⟩
  · show (if j < k then kv j else if j = k then ku else kv (j - 1)).ownBlock ≠ some b
    change (if i < k then kv i else if i = k then ku else kv (i - 1)).ownBlock = some b at hb
    by_cases ei : i < k
    · rw [if_pos ei] at hb
      by_cases ej : j < k
      · rw [if_pos ej]; exact h.apart i j hij (by omega) b hb
      · rw [if_neg ej]
        by_cases ej2 : j = k
        · rw [if_pos ej2]; exact hap i (by omega) b hb
        · rw [if_neg ej2]; exact h.apart i (j - 1) (by omega) (by omega) b hb
    · rw [if_neg ei] at hb
      rw [if_neg (by omega), if_neg (by omega)]
      by_cases ei2 : i = k
      · rw [if_pos ei2] at hb
        exact fun e => hap (j - 1) (by omega) b e hb
      · rw [if_neg ei2] at hb
        exact h.apart (i - 1) (j - 1) (by omega) (by omega) b hb
  · show (if i < k then kv i else if i = k then ku else kv (i - 1)) = ku ∨ ∃ t, t < n ∧ (if i < k then kv i else if i = k then ku else kv (i - 1)) = kv t
    by_cases e : i < k
    · rw [if_pos e]; exact .inr ⟨i, by omega, rfl⟩
    · rw [if_neg e]
      by_cases e2 : i = k
      · rw [if_pos e2]; exact .inl rfl
      · rw [if_neg e2]; exact .inr ⟨i - 1, by omega, rfl⟩
  · have b4 := b3.trans (hbx.mono (by omega))
    have b5 := b4.trans ((Below.refl X _).grown hg5 (by omega) (fun b e => (ho4.lt b e).1))
    exact b5.trans ((Below.refl X w5).grown hg6 (by omega) (fun b e => (ho5.lt b e).1))

end Go.Proofs.Ytdfijlcjmllplaa
