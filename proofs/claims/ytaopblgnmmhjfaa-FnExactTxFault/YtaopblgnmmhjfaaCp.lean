/- The specification's copy of a ledger; the program's tables handed out as a ledger. -/
import Derived.Test.YtaopblgnmmhjfaaMkL
import Derived.Test.YtaopblgnmmhjfaaTextOf
import Derived.Deep.RegionLaw
namespace Go.Proofs.Ytaopblgnmmhjfaa
open Go.RowKit Go.Maps Go.WideMaps
attribute [local go_sem ↓] Go.wp_at_zero Go.wp_at_succ

/-- append to a slice of the call's own that is not nil, as one step of a region that draws its order: the new slice written out. -/
theorem step_append_some {P : Program} (w : World) {ops : Array Oper} {o : Oper} {a : Act} {K : Act → World → Prop} {Q : Exit → Act → World → Prop} {E : Prop} (hgd : o.guard = none) (s x : Operand) (t : TypeId)
    (ho : o.op = .call { callee := .builtin .append, args := #[s, x], argTypes := #[t, t] })
    (base : Nat) (e : TypeId) (i : TypeInfo) (z : Value) (size bytes : Nat) (ht : P.underlying t = some (.slice e)) (hi : P.info? e = some i) (hz : i.zero = some z)
    (hsize : i.size = size) (hby : i.bytes = bytes) (hzs : z.cells.size = size) (hsz : 0 < size)
    (g0 c0 : Nat) (n : Nat) (xs : List Value) (hs : a.eval s = .slice (some ⟨g0, 0, none⟩) n c0) (hown : w.ownsRow base e size (.slice (some ⟨g0, 0, none⟩) n c0) n xs)
    (ad : Addr) (m c : Nat) (news : List Value) (hx : a.eval x = .slice (some ad) m c) (hl : news.length = m * size) (hnews : ∀ j u, news[j]? = some u → w.cell? (ad.add j) = some u) (h1 : ∀ u ∈ news, u.oneCell' = true)
    (h63 : n + m ≤ maxLen) (hbytes : (n + m) * bytes ≤ 140737488355328) (hbase : base ≤ w.heap.size)
    (h : ∀ g cap w', w'.ownsRow base e size (.slice (some ⟨g, 0, none⟩) (n + m) cap) (n + m) (xs ++ news) → w.grownBy w' (some g0) → K (a.put o.dst (.slice (some ⟨g, 0, none⟩) (n + m) cap)) w') :
    if Region.wanted o (yielded ops a.tmps) = true then Oper.wp P o a w K Q else E := by
  have hw : Region.wanted o (yielded ops a.tmps) = true := by simp [Region.wanted, hgd]
  rw [if_pos hw]
  refine wp_append_own w s x t ho base e i z size bytes ht hi hz hsize hby hzs hsz _ n xs hs hown ad m c news hx hl hnews h1 h63 hbytes hbase fun v' w' r1 r2 r3 => ?_
  rcases id r1.2 with ⟨e1, _⟩ | ⟨g, cap, cur, e1, _⟩
  · have := r3.1 e1; simp at this
  · subst e1
    exact h g cap w' r1 r2

/-- An empty row that has just been laid is owned. -/
theorem own_empty {W : World} {base X : Nat} {t : TypeId} {size : Nat} (h : W.heap[X]? = some (.cells #[] t (0, 0))) (hb : base ≤ X) : W.ownsRow base t size (.slice (some ⟨X, 0, none⟩) 0 0) 0 [] :=
  ⟨by simp, .inr ⟨X, 0, #[], rfl, hb, h, Nat.le_refl _, by unfold maxLen; omega, by simp, by simp⟩⟩

theorem keep_row {W W' : World} {X base n : Nat} {t e : TypeId} {size : Nat} {v : Value} {xs : List Value} {cur : Array Value} (hg : W.grownBy W' (some X)) (hX : W.heap[X]? = some (.cells cur t (0, 0))) (ho : W.ownsRow base e size v n xs) (hne : t ≠ e) : W'.ownsRow base e size v n xs := by
  refine ho.kept hg ?_
  rcases id ho.2 with ⟨rfl, _⟩ | ⟨g, c, cur', rfl, _, hh, _⟩
  · exact .inl rfl
  · right
    simp only [Value.ownBlock, ne_eq, Option.some.injEq]
    rintro rfl
    rw [hX] at hh
    simp at hh
    exact hne hh.2

theorem below_row {w W W' : World} {X : Nat} (h : Below w.heap.size w W) (hg : W.grownBy W' (some X)) (hX : w.heap.size ≤ X) : Below w.heap.size w W' := h.grown hg h.size (fun k e => by cases e; exact hX)

theorem news_texts {w W : World} {b0 o0 n : Nat} {ss : List ByteArray} (h : SAt w (some ⟨b0, o0, none⟩) n ss) (hb : Below w.heap.size w W) : ∀ j u, (ss.map Value.string)[j]? = some u → W.cell? ((⟨b0, o0, none⟩ : Addr).add j) = some u := by
  intro j u hj
  have hjl : j < ss.length := by have := (List.getElem?_eq_some_iff.1 hj).1; simpa using this
  have hh := (h.below hb (Nat.le_refl _))
  rcases hh.2 with h0 | ⟨b, off, e, _, hc⟩
  · have := h.1; omega
  · simp at e
    obtain ⟨rfl, rfl⟩ := e
    have h1 : (⟨b0, o0, none⟩ : Addr).add j = ⟨b0, o0 + j, none⟩ := by
      simp only [Addr.add]
      split
      · simp_all
      · rfl
    rw [h1, hc j (by have := h.1; omega)]
    simp [hjl] at hj
    rw [← hj]
    simp [List.getD, hjl]

theorem news_signs {w W : World} {b0 o0 n : Nat} {gs : List (Int × Int)} (h : GAt w (some ⟨b0, o0, none⟩) n gs) (hb : Below w.heap.size w W) : ∀ j u, (gcells gs)[j]? = some u → W.cell? ((⟨b0, o0, none⟩ : Addr).add j) = some u := by
  intro j u hj
  have hjl : j < gs.length * 2 := by have := (List.getElem?_eq_some_iff.1 hj).1; rwa [gcells_length] at this
  have hh := (h.below hb (Nat.le_refl _))
  rcases hh.2 with h0 | ⟨b, off, e, _, hc⟩
  · have := h.1; omega
  · simp at e
    obtain ⟨rfl, rfl⟩ := e
    have h1 : (⟨b0, o0, none⟩ : Addr).add j = ⟨b0, o0 + j, none⟩ := by
      simp only [Addr.add]
      split
      · simp_all
      · rfl
    have hd := hc (j / 2) (by have := h.1; omega)
    have ha := gcells_at gs (j / 2) (by omega)
    rw [h1]
    rcases Nat.mod_two_eq_zero_or_one j with e | e
    · have ej : j = j / 2 * 2 := by omega
      rw [ej] at hj ⊢
      rw [ha.1] at hj
      rw [hd.1, hj]
    · have ej : j = j / 2 * 2 + 1 := by omega
      rw [ej] at hj ⊢
      rw [ha.2] at hj
      rw [← Nat.add_assoc, hd.2, hj]

theorem one_texts {ss : List ByteArray} : ∀ u ∈ ss.map Value.string, u.oneCell' = true := by
  intro u hu
  simp at hu
  obtain ⟨s, _, rfl⟩ := hu
  rfl
theorem one_signs {gs : List (Int × Int)} : ∀ u ∈ gcells gs, u.oneCell' = true := by
  intro u hu
  simp [gcells] at hu
  obtain ⟨a, b, _, rfl | rfl⟩ := hu <;> rfl

end Go.Proofs.Ytaopblgnmmhjfaa
