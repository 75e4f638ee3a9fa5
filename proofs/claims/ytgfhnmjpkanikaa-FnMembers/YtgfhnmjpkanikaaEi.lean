/- The specification lets a member join. -/
import Derived.Test.YtgfhnmjpkanikaaEh
namespace Go.Proofs.Ytgfhnmjpkanikaa
open Go.RowKit Go.Maps Go.WideMaps

/-- An append in a region, out of its own run. -/
theorem step_append_runM {P : Program} {w : World} {ops : Array Oper} {o : Oper} {a : Act} {K : Act → World → Prop} {Q : Exit → Act → World → Prop} {E : Prop} (hgd : o.guard = none) (s x : Operand) (t : TypeId)
    (hop : o.op = .call { callee := .builtin .append, args := #[s, x], argTypes := #[t, t] }) {v u v' : Value} {w' : World} (hs : a.eval s = v) (hx : a.eval x = u) (hrun : (Builtin.append_ #[t, t] o.type #[v, u]).run P w = .ok v' w') (h : K (a.put o.dst v') w') :
    if Region.wanted o (yielded ops a.tmps) = true then Oper.wp P o a w K Q else E := by
  rw [if_pos (by simp [Region.wanted, hgd])]
  unfold Oper.wp
  simp [execOp, hop, resolve, invoke, builtin, hs, hx, hrun, Result.andThen]
  exact h

/-- A member put into its place. -/
def insM : List Mb → Mb → List Mb
  | [], x => [x]
  | a :: l, x => if a.1 < x.1 then a :: insM l x else x :: a :: l
theorem insM_split {x : Mb} : ∀ {ms : List Mb} {k : Nat}, k ≤ ms.length → (∀ t, t < k → (ms.getD t Z3).1 < x.1) → (k < ms.length → ¬ (ms.getD k Z3).1 < x.1) → insM ms x = ms.take k ++ x :: ms.drop k
  | [], k, hk, _, _ => by simp at hk; subst hk; rfl
  | a :: l, 0, _, _, h2 => by
    have this : ¬ a.1 < x.1 := h2 (by simp)
    unfold insM
    rw [if_neg this]
    rfl
  | a :: l, k + 1, hk, h1, h2 => by
    have h0 : a.1 < x.1 := h1 0 (by omega)
    unfold insM
    rw [if_pos h0, insM_split (k := k) (by simpa using hk) (fun t ht => h1 (t + 1) (by omega)) (fun h => h2 (by simpa using h))]
    rfl
/-- What joining comes to. -/
def joinMR (ms : List Mb) (x : Mb) : Int × List Mb :=
  if (ms.any fun m => decide (m.1 = x.1)) = true ∨ (ms.any fun m => decide (m.2 = x.2)) = true then (7, []) else if 8 ≤ ms.length then (2, []) else (0, insM ms x)
theorem mcells_append (a b : List Mb) : mcells (a ++ b) = mcells a ++ mcells b := by unfold mcells; rw [List.flatMap_append]
theorem mcells_take (ms : List Mb) (k : Nat) : (mcells ms).take (k * 3) = mcells (ms.take k) := by
  induction ms generalizing k with
  | nil => simp [mcells]
  | cons a l ih =>
    cases k with
    | zero => simp [mcells]
    | succ k =>
      have e : mcells (a :: l) = .int .i64 a.1 :: .int .i64 a.2.1 :: .int .i64 a.2.2 :: mcells l := by simp [mcells]
      have e2 : mcells (a :: l.take k) = .int .i64 a.1 :: .int .i64 a.2.1 :: .int .i64 a.2.2 :: mcells (l.take k) := by simp [mcells]
      have e3 : (k + 1) * 3 = k * 3 + 1 + 1 + 1 := by omega
      rw [e, e3, List.take_succ_cons, List.take_succ_cons, List.take_succ_cons, ih k, List.take_succ_cons, e2]
theorem mcells_drop (ms : List Mb) (k : Nat) : (mcells ms).drop (k * 3) = mcells (ms.drop k) := by
  induction ms generalizing k with
  | nil => simp [mcells]
  | cons a l ih =>
    cases k with
    | zero => simp [mcells]
    | succ k =>
      have e : mcells (a :: l) = .int .i64 a.1 :: .int .i64 a.2.1 :: .int .i64 a.2.2 :: mcells l := by simp [mcells]
      have e3 : (k + 1) * 3 = k * 3 + 1 + 1 + 1 := by omega
      rw [e, e3, List.drop_succ_cons, List.drop_succ_cons, List.drop_succ_cons, ih k, List.drop_succ_cons]
theorem mcells_one {ms : List Mb} : ∀ u ∈ mcells ms, u.oneCell' = true := by
  intro u hu
  obtain ⟨m, _, h⟩ := List.mem_flatMap.1 hu
  simp only [List.mem_cons, List.not_mem_nil, or_false] at h
  rcases h with rfl | rfl | rfl <;> rfl

/-- A part of members that lie somewhere is appended to a row. -/
theorem part_addM {W : World} {lo k g n off m o3 o0 : Nat} {v : Value} {ms ys : List Mb} (hv : W.ownsRow lo 38 3 v k (mcells ys)) (hx : MAt W (some ⟨g, o0, none⟩) n ms) (hom : off + m ≤ n) (hb : k + m ≤ 1000) (hlo : lo ≤ W.heap.size) (ho3 : o3 = o0 + off * 3 ∨ m = 0) :
    ∃ v' w', (∀ c, (Builtin.append_ #[24, 24] 24 #[v, .slice (some ⟨g, o3, none⟩) m c]).run Try.prog W = .ok v' w') ∧ w'.ownsRow lo 38 3 v' (k + m) (mcells (ys ++ (ms.drop off).take m)) ∧ W.grownBy w' v.ownBlock ∧ (v' = .slice none 0 0 ↔ v = .slice none 0 0 ∧ m = 0) := by
  obtain ⟨i0, hi, hz0, hz1, hz2⟩ := info_parts Try.infoMem
  have hl := hx.1
  have hnl : (mcells ((ms.drop off).take m)).length = m * 3 := by rw [mcells_length, List.length_take, List.length_drop, hl, show min m (n - off) = m by omega]
  have hnew : ∀ j u, (mcells ((ms.drop off).take m))[j]? = some u → W.cell? ((⟨g, o3, none⟩ : Addr).add j) = some u := fun j u hj => by
    have hjm : j < m * 3 := by
      have := (List.getElem?_eq_some_iff.1 hj).1
      rw [hnl] at this
      exact this
    rcases hx.2 with h0 | ⟨b, o, e, _, hc⟩
    · omega
    cases e
    have ho : o3 = o0 + off * 3 := by rcases ho3 with h | h <;> omega
    have hat := mcells_at ((ms.drop off).take m) (j / 3) (by rw [List.length_take, List.length_drop, hl]; omega)
    have hg : ((ms.drop off).take m).getD (j / 3) Z3 = ms.getD (off + j / 3) Z3 := by
      simp only [List.getD]
      rw [List.getElem?_take_of_lt (by omega), List.getElem?_drop]
    rw [hg] at hat
    have hcc := hc (off + j / 3) (by omega)
    have e3 : j % 3 = 0 ∨ j % 3 = 1 ∨ j % 3 = 2 := by omega
    rcases e3 with e | e | e
    · have ea : (⟨g, o3, none⟩ : Addr).add j = ⟨g, o0 + off * 3 + j, none⟩ := by simp [Addr.add, ho]
      rw [ea, show o0 + off * 3 + j = o0 + (off + j / 3) * 3 by omega, hcc.1]
      rw [show j = j / 3 * 3 by omega, hat.1] at hj
      exact hj
    · have ea : (⟨g, o3, none⟩ : Addr).add j = ⟨g, o0 + off * 3 + j, none⟩ := by simp [Addr.add, ho]
      rw [ea, show o0 + off * 3 + j = o0 + (off + j / 3) * 3 + 1 by omega, hcc.2.1]
      rw [show j = j / 3 * 3 + 1 by omega, hat.2.1] at hj
      exact hj
    · have ea : (⟨g, o3, none⟩ : Addr).add j = ⟨g, o0 + off * 3 + j, none⟩ := by simp [Addr.add, ho]
      rw [ea, show o0 + off * 3 + j = o0 + (off + j / 3) * 3 + 2 by omega, hcc.2.2]
      rw [show j = j / 3 * 3 + 2 by omega, hat.2.2] at hj
      exact hj
  obtain ⟨v', w', hrun, hown', hgrow, hnil⟩ := run_append_own (P := Try.prog) W lo 24 24 38 i0 (.agg #[.int .i64 0, .int .i64 0, .int .i64 0]) 3 24 Try.underlying24 hi hz0 hz1 hz2 rfl (by decide) v k (mcells ys) hv ⟨g, o3, none⟩ m 0 _ hnl hnew mcells_one (by unfold maxLen; omega) (by omega) hlo
  refine ⟨v', w', fun c => hrun, ?_, hgrow, hnil⟩
  rw [mcells_append]
  exact hown'
/-- A row that none of its blocks stands in. -/
theorem mat_grown {W w' : World} {row : Option Nat} {a : Option Addr} {n : Nat} {ms : List Mb} (h : MAt W a n ms) (hg : W.grownBy w' row) (hr : ∀ b o, a = some ⟨b, o, none⟩ → row ≠ some b) : MAt w' a n ms := by
  obtain ⟨hn, h | ⟨b, off, rfl, hlt, hc⟩⟩ := h
  · exact ⟨hn, .inl h⟩
  · have hblk := hg.block b hlt (fun e => hr b off rfl e.symm)
    refine ⟨hn, .inr ⟨b, off, rfl, Nat.lt_of_lt_of_le hlt hg.size, fun j hj => ?_⟩⟩
    have hcc := hc j hj
    exact ⟨(World.cell?_of_block hblk).trans hcc.1, (World.cell?_of_block hblk).trans hcc.2.1, (World.cell?_of_block hblk).trans hcc.2.2⟩

set_option maxHeartbeats 1000000 in
/-- A member is put into a list: the three appends, and what they leave. -/
theorem mem_put {W : World} {X g n k o3 : Nat} {ms : List Mb} {x : Mb} (h : MAt W (some ⟨g, 0, none⟩) n ms) (hX : W.heap[X]? = some (.cells #[] 38 (0, 0))) (hgX : g < X) (hk : k ≤ n) (hn : n ≤ 500) (ho3 : o3 = k * 3 ∨ n = k) :
    ∃ g1 c1 w3 g2 c2 w5 g3 c3 w6, (∀ c, (Builtin.append_ #[24, 24] 24 #[.slice (some ⟨X, 0, none⟩) 0 0, .slice (some ⟨g, 0, none⟩) k c]).run Try.prog W = .ok (.slice (some ⟨g1, 0, none⟩) k c1) w3) ∧
      ((Builtin.append_ #[24, 24] 24 #[.slice (some ⟨g1, 0, none⟩) k c1, .slice (some ⟨w3.heap.size, 0, none⟩) 1 1]).run Try.prog (w3.alloc (.cells #[.int .i64 x.1, .int .i64 x.2.1, .int .i64 x.2.2] 38)).drew = .ok (.slice (some ⟨g2, 0, none⟩) (k + 1) c2) w5) ∧
      (∀ c m, m = n - k → (Builtin.append_ #[24, 24] 24 #[.slice (some ⟨g2, 0, none⟩) (k + 1) c2, .slice (some ⟨g, o3, none⟩) m c]).run Try.prog w5 = .ok (.slice (some ⟨g3, 0, none⟩) (n + 1) c3) w6) ∧
      W.grownBy w3 (some X) ∧ Hid (w6.ownsRow X 38 3 (.slice (some ⟨g3, 0, none⟩) (n + 1) c3) (n + 1) (mcells (ms.take k ++ x :: ms.drop k)) ∧ Below X W w6) := by
  have hXl := lt_of_block hX
  have hl := h.1
  have hE : W.ownsRow X 38 3 (.slice (some ⟨X, 0, none⟩) 0 0) 0 (mcells []) := own_empty (base := X) (size := 3) hX (Nat.le_refl _)
  obtain ⟨v1, w3, hr1, ho1, hg1, hn1⟩ := part_addM (off := 0) (m := k) (o3 := 0) hE h (by omega) (by omega) (by omega) (by omega)
  have e1 : v1 ≠ .slice none 0 0 := fun e => by have := (hn1.1 e).1; cases this
  rw [Nat.zero_add, List.drop_zero, List.nil_append] at ho1
  obtain ⟨g1, c1, rfl⟩ : ∃ g1 c1, v1 = .slice (some ⟨g1, 0, none⟩) k c1 := by
    rcases ho1.2 with ⟨e, _⟩ | ⟨g1, c1, cur, e, _⟩
    · exact absurd e e1
    · exact ⟨g1, c1, e⟩
  have hg1X : X ≤ g1 := (ho1.lt g1 rfl).1
  have hs3 := hg1.size
  have h3 : MAt w3 (some ⟨g, 0, none⟩) n ms := mat_grown h hg1 (fun b o e e2 => by
    cases e
    have e3 : some X = some g := e2
    have := Option.some.inj e3
    omega)
  have hbx : Below w3.heap.size w3 (w3.alloc (.cells #[.int .i64 x.1, .int .i64 x.2.1, .int .i64 x.2.2] 38)).drew := (below_box _).trans ((Below.refl _ _).drew)
  have hs4 : (w3.alloc (.cells #[.int .i64 x.1, .int .i64 x.2.1, .int .i64 x.2.2] 38)).drew.heap.size = w3.heap.size + 1 := by simp
  have hX4 : (w3.alloc (.cells #[.int .i64 x.1, .int .i64 x.2.1, .int .i64 x.2.2] 38)).drew.heap[w3.heap.size]? = some (.cells #[.int .i64 x.1, .int .i64 x.2.1, .int .i64 x.2.2] 38 (0, 0)) := heap_alloc_new w3 _
  have ho4 : (w3.alloc (.cells #[.int .i64 x.1, .int .i64 x.2.1, .int .i64 x.2.2] 38)).drew.ownsRow X 38 3 (.slice (some ⟨g1, 0, none⟩) k c1) k (mcells (ms.take k)) := ho1.kept (grown_of_below hbx) (by cases Value.ownBlock (.slice (some ⟨g1, 0, none⟩) k c1) <;> simp)
  have h4 := h3.below hbx (Nat.le_refl _)
  obtain ⟨g2, c2, w5, hr2, HC5⟩ := mem_added (o := x) ho4 hX4 (by omega) (by omega)
  have hg5 := HC5.out.2
  have hs5 := hg5.size
  have h5 : MAt w5 (some ⟨g, 0, none⟩) n ms := mat_grown h4 hg5 (fun b o e e2 => by
    cases e
    have e3 : some g1 = some g := e2
    have := Option.some.inj e3
    omega)
  obtain ⟨v3, w6, hr3, ho6, hg6, hn6⟩ := part_addM (off := k) (m := n - k) (o3 := o3) HC5.out.1 h5 (by omega) (by omega) (by omega) (by omega)
  have e3 : v3 ≠ .slice none 0 0 := fun e => by have := (hn6.1 e).1; cases this
  have hkn : k + 1 + (n - k) = n + 1 := by omega
  rw [hkn] at ho6
  obtain ⟨g3, c3, rfl⟩ : ∃ g3 c3, v3 = .slice (some ⟨g3, 0, none⟩) (n + 1) c3 := by
    rcases ho6.2 with ⟨e, _⟩ | ⟨g3, c3, cur, e, _⟩
    · exact absurd e e3
    · exact ⟨g3, c3, e⟩
  have hcat : ms.take k ++ [x] ++ (ms.drop k).take (n - k) = ms.take k ++ x :: ms.drop k := by
    have e : (ms.drop k).take (n - k) = ms.drop k := List.take_of_length_le (by rw [List.length_drop]; omega)
    rw [e]
    simp
  rw [hcat] at ho6
  refine ⟨g1, c1, w3, g2, c2, w5, g3, c3, w6, hr1, hr2, fun c m hm => ?_, hg1, ho6, ?_⟩
  · subst hm
    exact hr3 c
  · have b3 : Below X W w3 := (Below.refl X W).grown hg1 (by omega) (fun b e => by
      have e2 : some X = some b := e
      cases e2
      exact Nat.le_refl _)
    have b4 := b3.trans (hbx.mono (by omega))
    have b5 := b4.trans ((Below.refl X _).grown hg5 (by omega) (fun b e => (ho4.lt b e).1))
    exact b5.trans ((Below.refl X w5).grown hg6 (by omega) (fun b e => (HC5.out.1.lt b e).1))

end Go.Proofs.Ytgfhnmjpkanikaa
