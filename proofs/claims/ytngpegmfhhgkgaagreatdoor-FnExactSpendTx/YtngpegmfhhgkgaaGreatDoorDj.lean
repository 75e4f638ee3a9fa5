/- The specification takes coins out of a list: pieces of rows appended. -/
import Derived.Test.YtngpegmfhhgkgaaGreatDoorDi
import Derived.Test.YtngpegmfhhgkgaaGreatDoorDa
namespace Go.Proofs.YtngpegmfhhgkgaaGreatDoor
open Go.RowKit Go.Maps Go.WideMaps

/-- An append in a region, out of its own run. -/
theorem step_append_runD {P : Program} {w : World} {ops : Array Oper} {o : Oper} {a : Act} {K : Act → World → Prop} {Q : Exit → Act → World → Prop} {E : Prop} (hgd : o.guard = none) (s x : Operand) (t : TypeId)
    (hop : o.op = .call { callee := .builtin .append, args := #[s, x], argTypes := #[t, t] }) {v u v' : Value} {w' : World} (hs : a.eval s = v) (hx : a.eval x = u) (hrun : (Builtin.append_ #[t, t] o.type #[v, u]).run P w = .ok v' w') (h : K (a.put o.dst v') w') :
    if Region.wanted o (yielded ops a.tmps) = true then Oper.wp P o a w K Q else E := by
  rw [if_pos (by simp [Region.wanted, hgd])]
  unfold Oper.wp
  simp [execOp, hop, resolve, invoke, builtin, hs, hx, hrun, Result.andThen]
  exact h

theorem one_row {w : World} {lo hi n : Nat} {v : Value} {f : Nat → Co} {kv : Nat → Value} {xs : List Value} (h : COwn w lo hi v n f kv) (hl : xs.length = n * 8) (hc : ∀ j, j < n → CellsC xs j (f j) (kv j)) : ∀ u ∈ xs, u.oneCell' = true := by
  intro u hu
  obtain ⟨t, ht, e⟩ := List.getElem_of_mem hu
  have e2 : xs[t]? = some u := by rw [List.getElem?_eq_getElem ht, e]
  obtain ⟨a0, a1, a2, a3, a4, a5, a6, a7⟩ := hc (t / 8) (by omega)
  have hk : (kv (t / 8)).oneCell' = true := by
    rcases (h.keys (t / 8) (by omega)).1.2 with ⟨e1, _⟩ | ⟨g, c, cur, e1, _⟩ <;> rw [e1] <;> rfl
  have hd : t = t / 8 * 8 + t % 8 := by omega
  have h8 : t % 8 = 0 ∨ t % 8 = 1 ∨ t % 8 = 2 ∨ t % 8 = 3 ∨ t % 8 = 4 ∨ t % 8 = 5 ∨ t % 8 = 6 ∨ t % 8 = 7 := by omega
  rw [hd] at e2
  rcases h8 with h8 | h8 | h8 | h8 | h8 | h8 | h8 | h8 <;> rw [h8] at e2
  · rw [Nat.add_zero, a0] at e2; cases e2; rfl
  · rw [a1] at e2; cases e2; rfl
  · rw [a2] at e2; cases e2; rfl
  · rw [a3] at e2; cases e2; exact hk
  · rw [a4] at e2; cases e2; rfl
  · rw [a5] at e2; cases e2; rfl
  · rw [a6] at e2; cases e2; rfl
  · rw [a7] at e2; cases e2; rfl

/-- A part of a row of coins is appended to another. -/
theorem part_added {W : World} {lo lo' k g n cap off m o8 : Nat} {v : Value} {ys xs : List Value} (hv : W.ownsRow lo 68 8 v k ys) (hx : W.ownsRow lo' 68 8 (.slice (some ⟨g, 0, none⟩) n cap) n xs) (h1 : ∀ u ∈ xs, u.oneCell' = true) (hom : off + m ≤ n) (hb : k + m ≤ 1000) (hlo : lo ≤ W.heap.size) (ho8 : o8 = off * 8 ∨ m = 0) :
    ∃ v' w', (∀ c, (Builtin.append_ #[29, 29] 29 #[v, .slice (some ⟨g, o8, none⟩) m c]).run Tryz.prog W = .ok v' w') ∧ w'.ownsRow lo 68 8 v' (k + m) (ys ++ (xs.drop (off * 8)).take (m * 8)) ∧ W.grownBy w' v.ownBlock ∧ (v' = .slice none 0 0 ↔ v = .slice none 0 0 ∧ m = 0) := by
  obtain ⟨i0, hi, hz0, hz1, hz2⟩ := info_parts Tryz.infoCoin
  have hl := hx.1
  have hnl : ((xs.drop (off * 8)).take (m * 8)).length = m * 8 := by rw [List.length_take, List.length_drop, hl]; omega
  have hnew : ∀ j u, ((xs.drop (off * 8)).take (m * 8))[j]? = some u → W.cell? ((⟨g, o8, none⟩ : Addr).add j) = some u := fun j u hj => by
    have hjm : j < m * 8 := by
      have := (List.getElem?_eq_some_iff.1 hj).1
      rw [hnl] at this
      exact this
    rw [List.getElem?_take_of_lt hjm, List.getElem?_drop] at hj
    have ho : o8 = off * 8 := by rcases ho8 with h | h <;> omega
    have ea : (⟨g, o8, none⟩ : Addr).add j = ⟨g, off * 8 + j, none⟩ := by simp [Addr.add, ho]
    rw [ea, hx.cellAt (off * 8 + j) (by omega)]
    exact hj
  have hone : ∀ u ∈ (xs.drop (off * 8)).take (m * 8), u.oneCell' = true := fun u hu => h1 u (List.mem_of_mem_drop (List.mem_of_mem_take hu))
  obtain ⟨v', w', hrun, hown', hgrow, hnil⟩ := run_append_own (P := Tryz.prog) W lo 29 29 68 i0 (.agg #[.int .i64 0, .int .i64 0, .int .i64 0, .slice none 0 0, .int .i64 0, .int .i64 0, .int .i64 0, .bool false]) 8 80 Tryz.underlying29 hi hz0 hz1 hz2 rfl (by decide) v k ys hv ⟨g, o8, none⟩ m 0 _ hnl hnew hone (by unfold maxLen; omega) (by omega) hlo
  exact ⟨v', w', fun c => hrun, hown', hgrow, hnil⟩

theorem rows_keep {W w' : World} {lo k d : Nat} {v z : Value} {ys zs : List Value} (hg : W.grownBy w' v.ownBlock) (hv : W.ownsRow lo 68 8 v k ys) (hz : W.ownsRow lo 2 1 z d zs) : w'.ownsRow lo 2 1 z d zs :=
  hz.kept hg (by
    cases e : z.ownBlock with
    | none => exact .inl rfl
    | some b => exact .inr fun e2 => rows_apart (by decide) hv hz b e2.symm e)

theorem erase_get {cs : List Co} {k j : Nat} : (cs.eraseIdx k).getD j C0 = if j < k then cs.getD j C0 else cs.getD (j + 1) C0 := by
  simp only [List.getD, List.getElem?_eraseIdx]
  split <;> rfl

set_option maxHeartbeats 1000000 in
/-- A coin is cut out of a list of coins: the two appends, and what they leave. -/
theorem coin_cut {W : World} {lo X g n cap k o8 : Nat} {cs : List Co} {kv : Nat → Value} (h : COwn W lo W.heap.size (.slice (some ⟨g, 0, none⟩) n cap) n (fun j => cs.getD j C0) kv) (hX : W.heap[X]? = some (.cells #[] 68 (0, 0))) (hlo : lo ≤ X) (hgX : g ≠ X) (hk : k < n) (hn : n ≤ 1000) (ho8 : o8 = (k + 1) * 8 ∨ n = k + 1) :
    ∃ g1 c1 g2 c2 w3 w4, (∀ c, (Builtin.append_ #[29, 29] 29 #[.slice (some ⟨X, 0, none⟩) 0 0, .slice (some ⟨g, 0, none⟩) k c]).run Tryz.prog W = .ok (.slice (some ⟨g1, 0, none⟩) k c1) w3) ∧
      (∀ c m, m = n - (k + 1) → (Builtin.append_ #[29, 29] 29 #[.slice (some ⟨g1, 0, none⟩) k c1, .slice (some ⟨g, o8, none⟩) m c]).run Tryz.prog w3 = .ok (.slice (some ⟨g2, 0, none⟩) (n - 1) c2) w4) ∧
      Hid ((∃ kv', COwn w4 lo w4.heap.size (.slice (some ⟨g2, 0, none⟩) (n - 1) c2) (n - 1) (fun j => (cs.eraseIdx k).getD j C0) kv') ∧ Below lo W w4 ∧ n - 1 ≤ c2 ∧ c2 ≤ maxLen) := by
  obtain ⟨xs, hrow, hc⟩ := h.row
  have hone := one_row h hrow.1 hc
  have hXl := lt_of_block hX
  have hE := own_empty (size := 8) hX hlo
  obtain ⟨v1, w3, hr1, ho1, hg1, hn1⟩ := part_added (off := 0) (m := k) (o8 := 0) hE hrow hone (by omega) (by omega) (by omega) (by omega)
  have e1 : v1 ≠ .slice none 0 0 := fun e => by have := (hn1.1 e).1; cases this
  rw [Nat.zero_add, Nat.zero_mul, List.drop_zero, List.nil_append] at ho1
  obtain ⟨g1, c1, rfl⟩ : ∃ g1 c1, v1 = .slice (some ⟨g1, 0, none⟩) k c1 := by
    rcases ho1.2 with ⟨e, _⟩ | ⟨g1, c1, cur, e, _⟩
    · exact absurd e e1
    · exact ⟨g1, c1, e⟩
  have hrow3 : w3.ownsRow lo 68 8 (.slice (some ⟨g, 0, none⟩) n cap) n xs := hrow.kept hg1 (.inr (by
    intro e
    have e2 : some g = some X := e
    exact hgX (Option.some.inj e2)))
  have hs3 := hg1.size
  obtain ⟨v2, w4, hr2, ho2, hg2, hn2⟩ := part_added (off := k + 1) (m := n - (k + 1)) (o8 := o8) ho1 hrow3 hone (by omega) (by omega) (by omega) (by omega)
  have e2 : v2 ≠ .slice none 0 0 := fun e => by have := (hn2.1 e).1; cases this
  have hkn : k + (n - (k + 1)) = n - 1 := by omega
  rw [hkn] at ho2
  obtain ⟨g2, c2, hq1, hq2, rfl⟩ : ∃ g2 c2, n - 1 ≤ c2 ∧ c2 ≤ maxLen ∧ v2 = .slice (some ⟨g2, 0, none⟩) (n - 1) c2 := by
    rcases ho2.2 with ⟨e, _⟩ | ⟨g2, c2, cur, e, _, _, q1, q2, _⟩
    · exact absurd e e2
    · exact ⟨g2, c2, q1, q2, e⟩
  refine ⟨g1, c1, g2, c2, w3, w4, hr1, fun c m hm => ?_, ⟨⟨fun j => if j < k then kv j else kv (j + 1), ⟨_, ho2, fun j hj => ?_⟩, fun b hb => (ho2.lt b hb).2, fun j hj => ?_, fun i j hij hj b hb => ?_⟩, ?_, hq1, hq2⟩⟩
  · subst hm
    exact hr2 c
  · have hl := hrow.1
    rw [erase_get]
    by_cases e : j < k
    · rw [if_pos e, if_pos e]
      obtain ⟨a0, a1, a2, a3, a4, a5, a6, a7⟩ := hc j (by omega)
      have g : ∀ i, i < 8 → (xs.take (k * 8) ++ (xs.drop ((k + 1) * 8)).take ((n - (k + 1)) * 8))[j * 8 + i]? = xs[j * 8 + i]? := fun i hi => by
        rw [List.getElem?_append_left (by rw [List.length_take]; omega), List.getElem?_take_of_lt (by omega)]
      exact ⟨(g 0 (by omega)).trans a0, (g 1 (by omega)).trans a1, (g 2 (by omega)).trans a2, (g 3 (by omega)).trans a3, (g 4 (by omega)).trans a4, (g 5 (by omega)).trans a5, (g 6 (by omega)).trans a6, (g 7 (by omega)).trans a7⟩
    · rw [if_neg e, if_neg e]
      obtain ⟨a0, a1, a2, a3, a4, a5, a6, a7⟩ := hc (j + 1) (by omega)
      have g : ∀ i, i < 8 → (xs.take (k * 8) ++ (xs.drop ((k + 1) * 8)).take ((n - (k + 1)) * 8))[j * 8 + i]? = xs[(j + 1) * 8 + i]? := fun i hi => by
        have hlt : (xs.take (k * 8)).length = k * 8 := by rw [List.length_take]; omega
        rw [List.getElem?_append_right (by omega), hlt, List.getElem?_take_of_lt (by omega), List.getElem?_drop]
        congr 1
        omega
      exact ⟨(g 0 (by omega)).trans a0, (g 1 (by omega)).trans a1, (g 2 (by omega)).trans a2, (g 3 (by omega)).trans a3, (g 4 (by omega)).trans a4, (g 5 (by omega)).trans a5, (g 6 (by omega)).trans a6, (g 7 (by omega)).trans a7⟩
  · have kp : ∀ i, i < n → w4.ownsRow lo 2 1 (kv i) (cs.getD i C0).l.length (ints (cs.getD i C0).l) := fun i hi => rows_keep hg2 ho1 (rows_keep hg1 hE (h.keys i hi).1)
    show w4.ownsRow lo 2 1 (if j < k then kv j else kv (j + 1)) ((cs.eraseIdx k).getD j C0).l.length (ints ((cs.eraseIdx k).getD j C0).l) ∧ _
    rw [erase_get]
    by_cases e : j < k
    · rw [if_pos e, if_pos e]
      exact ⟨kp j (by omega), fun b hb => ((kp j (by omega)).lt b hb).2⟩
    · rw [if_neg e, if_neg e]
      exact ⟨kp (j + 1) (by omega), fun b hb => ((kp (j + 1) (by omega)).lt b hb).2⟩
  · show (if j < k then kv j else kv (j + 1)).ownBlock ≠ some b
    change (if i < k then kv i else kv (i + 1)).ownBlock = some b at hb
    by_cases ei : i < k
    · rw [if_pos ei] at hb
      by_cases ej : j < k
      · rw [if_pos ej]; exact h.apart i j hij (by omega) b hb
      · rw [if_neg ej]; exact h.apart i (j + 1) (by omega) (by omega) b hb
    · rw [if_neg ei] at hb
      rw [if_neg (by omega)]
      exact h.apart (i + 1) (j + 1) (by omega) (by omega) b hb
  · have b1 : Below lo W w3 := (Below.refl lo W).grown hg1 (by omega) (fun b e => by
      have e2 : some X = some b := e
      cases e2
      exact hlo)
    exact b1.trans ((Below.refl lo w3).grown hg2 (by omega) (fun b e => (ho1.lt b e).1))

theorem drop_erase : ∀ {cs : List Co} {k : Nat} {r : Int × Int}, cs.Pairwise (fun x y => 0 < cmpR (y.p, y.q) (x.p, x.q)) → k < cs.length → ((cs.getD k C0).p, (cs.getD k C0).q) = r → dropC cs r = cs.eraseIdx k
  | a :: l, 0, r, h, _, e => by
    rw [List.pairwise_cons] at h
    have e' : (a.p, a.q) = r := e
    unfold dropC
    rw [List.filter_cons_of_neg (by simp [e']), List.filter_eq_self.2 (fun c hc => by
      have := cmpR_pos.1 (h.1 c hc)
      rw [← e']
      simp
      omega)]
    rfl
  | a :: l, k + 1, r, h, hk, e => by
    rw [List.pairwise_cons] at h
    have hk' : k < l.length := by simpa using hk
    have e' : ((l.getD k C0).p, (l.getD k C0).q) = r := by simpa using e
    have hm : l.getD k C0 ∈ l := by rw [List.getD, List.getElem?_eq_getElem hk']; exact List.getElem_mem _
    have := cmpR_pos.1 (h.1 _ hm)
    have ih := drop_erase h.2 hk' e'
    obtain ⟨d, hd⟩ : ∃ d, d = l.getD k C0 := ⟨_, rfl⟩
    rw [← hd] at e' this
    clear hd
    unfold dropC at ih ⊢
    rw [List.filter_cons_of_pos (by
      rw [← e']
      simp
      omega), ih]
    rfl

end Go.Proofs.YtngpegmfhhgkgaaGreatDoor
