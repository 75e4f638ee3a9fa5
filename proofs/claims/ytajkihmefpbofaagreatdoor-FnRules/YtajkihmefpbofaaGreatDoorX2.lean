/- The specification's copy of a ledger; the program's tables handed out as a ledger. The specification's copy of a ledger: two rows of new memory. What a result with a ledger is, and what the specification's NoteText answers. A new text in the table, and what of other memory stays. What the program's NoteText answers. What noting a text comes to: pure. What the specification's SignId answers. A new signature in the table, and what of other memory stays. What the program's SignId answers. -/
import Derived.Test.YtajkihmefpbofaaGreatDoorX1
import Derived.Deep.RegionLaw
namespace Go.Proofs.YtajkihmefpbofaaGreatDoor
open Go.RowKit Go.Maps Go.WideMaps
attribute [local go_sem ↓] Go.wp_at_zero Go.wp_at_succ

/-- append to a slice of the call's own that is not nil, as one step of a region that draws its order: the new slice written out. -/
theorem step_append_some {P : Program} (w : World) {ops : Array Oper} {o : Oper} {a : Act} {K : Act → World → Prop} {Q : Exit → Act → World → Prop} {E : Prop} (hgd : o.guard = none) (s x : Operand) (t : TypeId)
    (ho : o.op = .call { callee := .builtin .append, args := #[s, x], argTypes := #[t, t] })
    (base : Nat) (e : TypeId) (i : TypeInfo) (z : Value) (size bytes : Nat) (ht : P.underlying t = some (.slice e)) (hi : P.info? e = some i) (hz : i.zero = some z)
    (hsize : i.size = size) (hby : i.bytes = bytes) (hzs : z.cells.size = size) (hsz : 0 < size)
    (g0 c0 : Nat) (n : Nat) (xs : List Value) (hs : a.eval s = .slice (some ⟨g0, 0, none⟩) n c0) (hown : w.ownsRow base e size (.slice (some ⟨g0, 0, none⟩) n c0) n xs)
    (ad : Addr) (m c : Nat) (news : List Value) (hx : a.eval x = .slice (some ad) m c) (hl : news.length = m * size) (hnews : ∀ j u, news[j]? = some u → w.cell? (ad.add j) = some u) (h1 : ∀ u ∈ news, u.oneCell' = true)
    (h63 : n + m ≤ maxLen) (hbytes : (n + m) * bytes ≤ 140737488355328) (hbase : base ≤ w.heap.size)
    (h : ∀ g cap w', w'.ownsRow base e size (.slice (some ⟨g, 0, none⟩) (n + m) cap) (n + m) (xs ++ news) → w.grownBy w' (some g0) → K (a.put o.dst (.slice (some ⟨g, 0, none⟩) (n + m) cap)) w') :
    if Region.wanted o (yielded ops a.tmps) = true then Oper.wp P o a w K Q else E := by
  have hw : Region.wanted o (yielded ops a.tmps) = true := by simp [Region.wanted, hgd]
  rw [if_pos hw]
  refine wp_append_own w s x t ho base e i z size bytes ht hi hz hsize hby hzs hsz _ n xs hs hown ad m c news hx hl hnews h1 h63 hbytes hbase fun v' w' r1 r2 r3 => ?_
  rcases id r1.2 with ⟨e1, _⟩ | ⟨g, cap, cur, e1, _⟩
  · have := r3.1 e1; simp at this
  · subst e1
    exact h g cap w' r1 r2

/-- An empty row that has just been laid is owned. -/
theorem own_empty {W : World} {base X : Nat} {t : TypeId} {size : Nat} (h : W.heap[X]? = some (.cells #[] t (0, 0))) (hb : base ≤ X) : W.ownsRow base t size (.slice (some ⟨X, 0, none⟩) 0 0) 0 [] :=
  ⟨by simp, .inr ⟨X, 0, #[], rfl, hb, h, Nat.le_refl _, by unfold maxLen; omega, by simp, by simp⟩⟩

theorem keep_row {W W' : World} {X base n : Nat} {t e : TypeId} {size : Nat} {v : Value} {xs : List Value} {cur : Array Value} (hg : W.grownBy W' (some X)) (hX : W.heap[X]? = some (.cells cur t (0, 0))) (ho : W.ownsRow base e size v n xs) (hne : t ≠ e) : W'.ownsRow base e size v n xs := by
  refine ho.kept hg ?_
  rcases id ho.2 with ⟨rfl, _⟩ | ⟨g, c, cur', rfl, _, hh, _⟩
  · exact .inl rfl
  · right
    simp only [Value.ownBlock, ne_eq, Option.some.injEq]
    rintro rfl
    rw [hX] at hh
    simp at hh
    exact hne hh.2

theorem news_texts {w W : World} {b0 o0 n : Nat} {ss : List ByteArray} (h : SAt w (some ⟨b0, o0, none⟩) n ss) (hb : Below w.heap.size w W) : ∀ j u, (ss.map Value.string)[j]? = some u → W.cell? ((⟨b0, o0, none⟩ : Addr).add j) = some u := by
  intro j u hj
  have hjl : j < ss.length := by have := (List.getElem?_eq_some_iff.1 hj).1; simpa using this
  have hh := (h.below hb (Nat.le_refl _))
  rcases hh.2 with h0 | ⟨b, off, e, _, hc⟩
  · have := h.1; omega
  · simp at e
    obtain ⟨rfl, rfl⟩ := e
    have h1 : (⟨b0, o0, none⟩ : Addr).add j = ⟨b0, o0 + j, none⟩ := by
      simp only [Addr.add]
      split
      · simp_all
      · rfl
    rw [h1, hc j (by have := h.1; omega)]
    simp [hjl] at hj
    rw [← hj]
    simp [List.getD, hjl]

theorem news_signs {w W : World} {b0 o0 n : Nat} {gs : List (Int × Int)} (h : GAt w (some ⟨b0, o0, none⟩) n gs) (hb : Below w.heap.size w W) : ∀ j u, (gcells gs)[j]? = some u → W.cell? ((⟨b0, o0, none⟩ : Addr).add j) = some u := by
  intro j u hj
  have hjl : j < gs.length * 2 := by have := (List.getElem?_eq_some_iff.1 hj).1; rwa [gcells_length] at this
  have hh := (h.below hb (Nat.le_refl _))
  rcases hh.2 with h0 | ⟨b, off, e, _, hc⟩
  · have := h.1; omega
  · simp at e
    obtain ⟨rfl, rfl⟩ := e
    have h1 : (⟨b0, o0, none⟩ : Addr).add j = ⟨b0, o0 + j, none⟩ := by
      simp only [Addr.add]
      split
      · simp_all
      · rfl
    have hd := hc (j / 2) (by have := h.1; omega)
    have ha := gcells_at gs (j / 2) (by omega)
    rw [h1]
    rcases Nat.mod_two_eq_zero_or_one j with e | e
    · have ej : j = j / 2 * 2 := by omega
      rw [ej] at hj ⊢
      rw [ha.1] at hj
      rw [hd.1, hj]
    · have ej : j = j / 2 * 2 + 1 := by omega
      rw [ej] at hj ⊢
      rw [ha.2] at hj
      rw [← Nat.add_assoc, hd.2, hj]

theorem one_texts {ss : List ByteArray} : ∀ u ∈ ss.map Value.string, u.oneCell' = true := by
  intro u hu
  simp at hu
  obtain ⟨s, _, rfl⟩ := hu
  rfl
theorem one_signs {gs : List (Int × Int)} : ∀ u ∈ gcells gs, u.oneCell' = true := by
  intro u hu
  simp [gcells] at hu
  obtain ⟨a, b, _, rfl | rfl⟩ := hu <;> rfl

end Go.Proofs.YtajkihmefpbofaaGreatDoor

namespace Go.Proofs.YtajkihmefpbofaaGreatDoor
open Go.RowKit Go.Maps Go.WideMaps
attribute [local go_sem ↓] Go.wp_at_zero Go.wp_at_succ

theorem heap_at (w : World) (o : Obj) (n : Nat) (h : n = w.heap.size) : (w.alloc o).heap[n]? = some o := by rw [h]; exact heap_alloc_new w o
theorem heap_at2 (w : World) (o o' : Obj) (n : Nat) (h : n = w.heap.size) : ((w.alloc o).alloc o').heap[n]? = some o := by rw [h]; exact block_at2

theorem copy_below {w W : World} {o o' : Obj} (hb : Below (w.heap.size + 1 + 1) ((w.alloc o).alloc o') W) : Below w.heap.size w W := (below_box2 _ _).trans (hb.mono (by omega))
theorem copy_cells {w W : World} {a0 a1 c0 c1 : Value} {t t' : TypeId} (hb : Below (w.heap.size + 1 + 1) ((w.alloc (.cells #[a0, a1] t)).alloc (.cells #[c0, c1] t')) W) : W.cell? ⟨w.heap.size, 0, none⟩ = some a0 ∧ W.cell? ⟨w.heap.size, 1, none⟩ = some a1 ∧ w.heap.size + 1 + 1 ≤ W.heap.size ∧
    W.cell? ⟨w.heap.size + 1, 0, none⟩ = some c0 ∧ W.cell? ⟨w.heap.size + 1, 1, none⟩ = some c1 ∧ W.frozen? ⟨w.heap.size + 1, 0, none⟩ = false ∧ W.frozen? ⟨w.heap.size + 1, 1, none⟩ = false ∧ Hid (W.heap[w.heap.size + 1]? = some (.cells #[c0, c1] t' (0, 0))) := by
  have hh := (hb.block w.heap.size (by omega)).trans (block_at2 (w := w) (o := .cells #[a0, a1] t) (o' := .cells #[c0, c1] t'))
  have h1 : ((w.alloc (.cells #[a0, a1] t)).alloc (.cells #[c0, c1] t')).heap[w.heap.size + 1]? = some (.cells #[c0, c1] t' (0, 0)) := heap_at _ _ _ (by simp)
  have hh1 := (hb.block (w.heap.size + 1) (by omega)).trans h1
  have hs := hb.size
  simp only [World.size_alloc] at hs
  exact ⟨by unfold World.cell?; rw [hh]; rfl, by unfold World.cell?; rw [hh]; rfl, hs, by unfold World.cell?; rw [hh1]; rfl, by unfold World.cell?; rw [hh1]; rfl, Joins.unfrozen_of_block hh1 0, Joins.unfrozen_of_block hh1 1, hh1⟩

end Go.Proofs.YtajkihmefpbofaaGreatDoor

namespace Go.Proofs.YtajkihmefpbofaaGreatDoor
open Go.RowKit Go.Maps Go.WideMaps

structure LRes where
  c : Int
  i : Int
  s : List ByteArray
  g : List (Int × Int)

def noteR (ss : List ByteArray) (gs : List (Int × Int)) (x : ByteArray) : LRes :=
  if flt ss gs ≠ 0 then ⟨flt ss gs, 0, [], []⟩ else if x.size < 1 ∨ 300 < x.size then ⟨2, 0, [], []⟩ else if num ss x ≠ 0 then ⟨0, num ss x, ss, gs⟩ else if 60 ≤ ss.length then ⟨2, 0, [], []⟩ else ⟨0, ss.length + 1, ss ++ [x], gs⟩

section
variable {ss : List ByteArray} {gs : List (Int × Int)} {x : ByteArray} {n : Nat}
theorem noteR_bad {c : Int} (h : c = flt ss gs) (h0 : c ≠ 0) : noteR ss gs x = ⟨c, 0, [], []⟩ := by unfold noteR; rw [← h, if_pos h0]
theorem noteR_size (h : 0 = flt ss gs) (h1 : x.size < 1 ∨ 300 < x.size) : noteR ss gs x = ⟨2, 0, [], []⟩ := by unfold noteR; rw [← h, if_neg (by simp), if_pos h1]
theorem noteR_old (h : 0 = flt ss gs) (h1 : ¬ (x.size < 1 ∨ 300 < x.size)) {k : Nat} (hk : k = num ss x) (hk0 : k ≠ 0) : noteR ss gs x = ⟨0, k, ss, gs⟩ := by unfold noteR; rw [← h, if_neg (by simp), if_neg h1, ← hk, if_pos hk0]
theorem noteR_full (hn : ss.length = n) (h : 0 = flt ss gs) (h1 : ¬ (x.size < 1 ∨ 300 < x.size)) (hk : num ss x = 0) (h60 : 60 ≤ n) : noteR ss gs x = ⟨2, 0, [], []⟩ := by unfold noteR; rw [← h, if_neg (by simp), if_neg h1, if_neg (by simp [hk]), hn, if_pos h60]
theorem noteR_new (hn : ss.length = n) (h : 0 = flt ss gs) (h1 : ¬ (x.size < 1 ∨ 300 < x.size)) (hk : num ss x = 0) (h60 : ¬ 60 ≤ n) : noteR ss gs x = ⟨0, (n : Int) + 1, ss ++ [x], gs⟩ := by unfold noteR; rw [← h, if_neg (by simp), if_neg h1, if_neg (by simp [hk]), hn, if_neg h60]
end

/-- What a result with a ledger is: its two lists lie in new memory. -/
def OutL (w w' : World) (e : Ending) (r : LRes) : Prop :=
  Below w.heap.size w w' ∧ ∃ a0 c0 a1 c1, e = .returned (.agg #[.int .i64 r.c, .int .i64 r.i, .slice a0 r.s.length c0, .slice a1 r.g.length c1]) ∧
    w'.ownsRow w.heap.size 9 1 (.slice a0 r.s.length c0) r.s.length (r.s.map Value.string) ∧ w'.ownsRow w.heap.size 83 2 (.slice a1 r.g.length c1) r.g.length (gcells r.g)

theorem OutL.empty {w w' : World} {c : Int} (h : Below w.heap.size w w') : OutL w w' (.returned (.agg #[.int .i64 c, .int .i64 0, .slice none 0 0, .slice none 0 0])) ⟨c, 0, [], []⟩ := ⟨h, none, 0, none, 0, rfl, World.ownsRow_nil _ _ _ _, World.ownsRow_nil _ _ _ _⟩

/-- Four cells of one block. -/
theorem cells4 {v : World} {b : Nat} {a0 a1 a2 a3 : Value} {t : TypeId} (h : v.heap[b]? = some (.cells #[a0, a1, a2, a3] t (0, 0))) :
    v.cell? ⟨b, 0, none⟩ = some a0 ∧ v.cell? ⟨b, 1, none⟩ = some a1 ∧ v.cell? ⟨b, 2, none⟩ = some a2 ∧ v.cell? ⟨b, 3, none⟩ = some a3 ∧ v.frozen? ⟨b, 0, none⟩ = false ∧ v.frozen? ⟨b, 1, none⟩ = false ∧ v.frozen? ⟨b, 2, none⟩ = false ∧ v.frozen? ⟨b, 3, none⟩ = false :=
  ⟨by unfold World.cell?; rw [h]; rfl, by unfold World.cell?; rw [h]; rfl, by unfold World.cell?; rw [h]; rfl, by unfold World.cell?; rw [h]; rfl, Joins.unfrozen_of_block h 0, Joins.unfrozen_of_block h 1, Joins.unfrozen_of_block h 2, Joins.unfrozen_of_block h 3⟩

theorem four_set {w : World} {b : Nat} {c0 c1 c2 c3 : Value} {t : TypeId} (h : w.heap[b]? = some (.cells #[c0, c1, c2, c3] t (0, 0))) (v0 v1 v2 v3 : Value) :
    (w.setCell ⟨b, 0, none⟩ v0).cell? ⟨b, 0, none⟩ = some v0 ∧ ((w.setCell ⟨b, 0, none⟩ v0).setCell ⟨b, 1, none⟩ v1).cell? ⟨b, 1, none⟩ = some v1 ∧ (((w.setCell ⟨b, 0, none⟩ v0).setCell ⟨b, 1, none⟩ v1).setCell ⟨b, 2, none⟩ v2).cell? ⟨b, 2, none⟩ = some v2 ∧
      ((((w.setCell ⟨b, 0, none⟩ v0).setCell ⟨b, 1, none⟩ v1).setCell ⟨b, 2, none⟩ v2).setCell ⟨b, 3, none⟩ v3).cell? ⟨b, 3, none⟩ = some v3 := by
  have h1 : (w.setCell ⟨b, 0, none⟩ v0).heap[b]? = some (.cells #[v0, c1, c2, c3] t (0, 0)) := by
    have := Joins.block_setCell (i := 0) h v0
    simpa using this
  have h2 : ((w.setCell ⟨b, 0, none⟩ v0).setCell ⟨b, 1, none⟩ v1).heap[b]? = some (.cells #[v0, v1, c2, c3] t (0, 0)) := by
    have := Joins.block_setCell (i := 1) h1 v1
    simpa using this
  have h3 : (((w.setCell ⟨b, 0, none⟩ v0).setCell ⟨b, 1, none⟩ v1).setCell ⟨b, 2, none⟩ v2).heap[b]? = some (.cells #[v0, v1, v2, c3] t (0, 0)) := by
    have := Joins.block_setCell (i := 2) h2 v2
    simpa using this
  have h4 : ((((w.setCell ⟨b, 0, none⟩ v0).setCell ⟨b, 1, none⟩ v1).setCell ⟨b, 2, none⟩ v2).setCell ⟨b, 3, none⟩ v3).heap[b]? = some (.cells #[v0, v1, v2, v3] t (0, 0)) := by
    have := Joins.block_setCell (i := 3) h3 v3
    simpa using this
  exact ⟨by unfold World.cell?; rw [h1]; rfl, by unfold World.cell?; rw [h2]; rfl, by unfold World.cell?; rw [h3]; rfl, by unfold World.cell?; rw [h4]; rfl⟩

/-- What four stores into the result leave. -/
theorem below_res4 {w w2 : World} (h : Below w.heap.size w w2) (v0 v1 v2 v3 : Value) : Below w.heap.size w ((((w2.setCell ⟨w.heap.size + 1, 0, none⟩ v0).setCell ⟨w.heap.size + 1, 1, none⟩ v1).setCell ⟨w.heap.size + 1, 2, none⟩ v2).setCell ⟨w.heap.size + 1, 3, none⟩ v3) :=
  (((h.setCell (p := ⟨w.heap.size + 1, 0, none⟩) (show w.heap.size ≤ w.heap.size + 1 by omega) _).setCell (p := ⟨w.heap.size + 1, 1, none⟩) (show w.heap.size ≤ w.heap.size + 1 by omega) _).setCell (p := ⟨w.heap.size + 1, 2, none⟩) (show w.heap.size ≤ w.heap.size + 1 by omega) _).setCell (p := ⟨w.heap.size + 1, 3, none⟩) (show w.heap.size ≤ w.heap.size + 1 by omega) _
theorem row_res4 {w2 : World} {b base base' : Nat} {e : TypeId} {size n : Nat} {v : Value} {xs : List Value} (h : w2.ownsRow base e size v n xs) (hb : b < base) (hb' : base' ≤ base) (v0 v1 v2 v3 : Value) :
    ((((w2.setCell ⟨b, 0, none⟩ v0).setCell ⟨b, 1, none⟩ v1).setCell ⟨b, 2, none⟩ v2).setCell ⟨b, 3, none⟩ v3).ownsRow base' e size v n xs :=
  Joins.ownsRow_le (ownsRow_setCell_below (ownsRow_setCell_below (ownsRow_setCell_below (ownsRow_setCell_below h (a := ⟨b, 0, none⟩) hb _) (a := ⟨b, 1, none⟩) hb _) (a := ⟨b, 2, none⟩) hb _) (a := ⟨b, 3, none⟩) hb _) hb'

/-- A result of four cells behind a ledger that lies boxed, behind a call. -/
def Box4 (w w2 : World) (a0 a1 : Value) (t : TypeId) : Prop :=
  w2.heap[w.heap.size + 1]? = some (.cells #[.int .i64 0, .int .i64 0, .slice none 0 0, .slice none 0 0] 44 (0, 0)) ∧ Below w.heap.size w w2 ∧ w2.heap[w.heap.size]? = some (.cells #[a0, a1] t (0, 0))

theorem Box4.start {w w2 : World} {a0 a1 : Value} {t : TypeId} (hb : Below ((w.alloc (.cells #[a0, a1] t)).alloc (.cells #[.int .i64 0, .int .i64 0, .slice none 0 0, .slice none 0 0] 44)).heap.size ((w.alloc (.cells #[a0, a1] t)).alloc (.cells #[.int .i64 0, .int .i64 0, .slice none 0 0, .slice none 0 0] 44)) w2) : Hid (Box4 w w2 a0 a1 t) :=
  ⟨(hb.block _ (by simp)).trans (heap_at _ _ _ (by simp)), (below_box2 _ _).trans (hb.mono (by simp; omega)), (hb.block _ (by simp; omega)).trans block_at2⟩
theorem Box4.step {w w2 w3 : World} {a0 a1 : Value} {t : TypeId} (h : Box4 w w2 a0 a1 t) (hb : Below w2.heap.size w2 w3) : Hid (Box4 w w3 a0 a1 t) :=
  ⟨(keepb h.1 hb).out, h.2.1.trans (hb.mono h.2.1.size), (keepb h.2.2 hb).out⟩
theorem Box4.lt {w w2 : World} {a0 a1 : Value} {t : TypeId} (h : Box4 w w2 a0 a1 t) : w.heap.size + 1 < w2.heap.size := lt_of_block h.1

/-- The specification's fault where the ledger lies boxed, a result of four cells behind it. -/
theorem l1Fault_box4 (n m tc gc : Nat) (ta ga : Option Addr) (ss : List ByteArray) (gs : List (Int × Int)) (w : World)
    (htc : n ≤ tc) (hgc : m ≤ gc) (htm : tc ≤ maxLen) (hgm : gc ≤ maxLen) (hf : Fine ss gs) (h : LedAt w ta n ga m ss gs) :
    Calls Tryz.prog 23 #[.pointer (some ⟨w.heap.size, 0, none⟩)] ((w.alloc (.cells #[.slice ta n tc, .slice ga m gc] 27)).alloc (.cells #[.int .i64 0, .int .i64 0, .slice none 0 0, .slice none 0 0] 44)) fun e w' => e = .returned (.int .i64 (flt ss gs)) ∧ Hid (Box4 w w' (.slice ta n tc) (.slice ga m gc) 27) := by
  have hb : Below w.heap.size w ((w.alloc (.cells #[.slice ta n tc, .slice ga m gc] 27)).alloc (.cells #[.int .i64 0, .int .i64 0, .slice none 0 0, .slice none 0 0] 44)) := below_box2 _ _
  have hx := block_at2 (w := w) (o := .cells #[.slice ta n tc, .slice ga m gc] 27) (o' := .cells #[.int .i64 0, .int .i64 0, .slice none 0 0, .slice none 0 0] 44)
  exact (l1Fault_any w.heap.size n m tc gc ta ga ss gs _ (lt_of_block hx) (by unfold World.cell?; rw [hx]; rfl) (by unfold World.cell?; rw [hx]; rfl) htc hgc htm hgm hf.s (h.s.below hb (Nat.le_refl _)) (h.g.below hb (Nat.le_refl _))).mono fun e w' hr => ⟨hr.1, Box4.start hr.2⟩

theorem newsT {W : World} {H : Nat} {u : Value} {t : TypeId} (h : W.heap[H]? = some (.cells #[u] t (0, 0))) : ∀ j v, [u][j]? = some v → W.cell? ((⟨H, 0, none⟩ : Addr).add j) = some v := by
  intro j v hj
  match j, hj with
  | 0, hj => simp at hj; subst hj; simp [Addr.add, World.cell?, h]
theorem oneS {x : ByteArray} : ∀ u ∈ [Value.string x], u.oneCell' = true := by
  intro u hu
  simp at hu
  subst hu; rfl

theorem row_set_other {W : World} {b i base n : Nat} {e t : TypeId} {size : Nat} {v : Value} {xs : List Value} {cs : Array Value} (h : W.ownsRow base e size v n xs) (hb : W.heap[b]? = some (.cells cs t (0, 0))) (hne : e ≠ t) (u : Value) : (W.setCell ⟨b, i, none⟩ u).ownsRow base e size v n xs := by
  refine ownsRow_setCell_other h (a := ⟨b, i, none⟩) ?_ u
  intro hv
  rcases id h.2 with ⟨rfl, _⟩ | ⟨g, c, cur', rfl, _, hh, _⟩
  · simp [Value.ownBlock] at hv
  · simp [Value.ownBlock] at hv
    subst hv
    rw [hb] at hh
    simp at hh
    exact hne hh.2.symm

theorem nt_new {w w2 w3 w5 : World} {a0 a1 : Value} {n m g0 k0 g1 k1 g cap : Nat} {ss : List ByteArray} {gs : List (Int × Int)} {o : Obj} {zs : List Value}
    (HB : Box4 w (w3.alloc (.cells #[.slice (some ⟨g0, 0, none⟩) n k0, .slice (some ⟨g1, 0, none⟩) m k1] 27)) a0 a1 27) (HO : OwnL (w3.alloc (.cells #[.slice (some ⟨g0, 0, none⟩) n k0, .slice (some ⟨g1, 0, none⟩) m k1] 27)) w2.heap.size n m ss gs g0 k0 g1 k1) (HX : (w3.alloc (.cells #[.slice (some ⟨g0, 0, none⟩) n k0, .slice (some ⟨g1, 0, none⟩) m k1] 27)).heap[w3.heap.size]? = some (.cells #[.slice (some ⟨g0, 0, none⟩) n k0, .slice (some ⟨g1, 0, none⟩) m k1] 27 (0, 0)))
    (ho : w5.ownsRow w2.heap.size 9 1 (.slice (some ⟨g, 0, none⟩) (n + 1) cap) (n + 1) zs) (hg : ((w3.alloc (.cells #[.slice (some ⟨g0, 0, none⟩) n k0, .slice (some ⟨g1, 0, none⟩) m k1] 27)).alloc o).grownBy w5 (Value.ownBlock (.slice (some ⟨g0, 0, none⟩) n k0))) (h12 : w.heap.size + 1 < w2.heap.size) (h23 : w2.heap.size ≤ w3.heap.size) :
    w5.cell? ⟨w3.heap.size, 0, none⟩ = some (.slice (some ⟨g0, 0, none⟩) n k0) ∧ w5.cell? ⟨w3.heap.size, 1, none⟩ = some (.slice (some ⟨g1, 0, none⟩) m k1) ∧ w5.frozen? ⟨w3.heap.size, 0, none⟩ = false ∧
    (w5.setCell ⟨w3.heap.size, 0, none⟩ (.slice (some ⟨g, 0, none⟩) (n + 1) cap)).cell? ⟨w3.heap.size, 0, none⟩ = some (.slice (some ⟨g, 0, none⟩) (n + 1) cap) ∧
    (w5.setCell ⟨w3.heap.size, 0, none⟩ (.slice (some ⟨g, 0, none⟩) (n + 1) cap)).cell? ⟨w3.heap.size, 1, none⟩ = some (.slice (some ⟨g1, 0, none⟩) m k1) ∧
    Hid (Box4 w (w5.setCell ⟨w3.heap.size, 0, none⟩ (.slice (some ⟨g, 0, none⟩) (n + 1) cap)) a0 a1 27 ∧ (w5.setCell ⟨w3.heap.size, 0, none⟩ (.slice (some ⟨g, 0, none⟩) (n + 1) cap)).ownsRow w2.heap.size 9 1 (.slice (some ⟨g, 0, none⟩) (n + 1) cap) (n + 1) zs ∧
      (w5.setCell ⟨w3.heap.size, 0, none⟩ (.slice (some ⟨g, 0, none⟩) (n + 1) cap)).ownsRow w2.heap.size 83 2 (.slice (some ⟨g1, 0, none⟩) m k1) m (gcells gs)) ∧
    (w5.setCell ⟨w3.heap.size, 0, none⟩ (.slice (some ⟨g, 0, none⟩) (n + 1) cap)).cell? ⟨w.heap.size + 1, 0, none⟩ = some (.int .i64 0) ∧ (w5.setCell ⟨w3.heap.size, 0, none⟩ (.slice (some ⟨g, 0, none⟩) (n + 1) cap)).cell? ⟨w.heap.size + 1, 1, none⟩ = some (.int .i64 0) ∧ (w5.setCell ⟨w3.heap.size, 0, none⟩ (.slice (some ⟨g, 0, none⟩) (n + 1) cap)).cell? ⟨w.heap.size + 1, 2, none⟩ = some (.slice none 0 0) ∧ (w5.setCell ⟨w3.heap.size, 0, none⟩ (.slice (some ⟨g, 0, none⟩) (n + 1) cap)).cell? ⟨w.heap.size + 1, 3, none⟩ = some (.slice none 0 0) ∧
    (w5.setCell ⟨w3.heap.size, 0, none⟩ (.slice (some ⟨g, 0, none⟩) (n + 1) cap)).frozen? ⟨w.heap.size + 1, 0, none⟩ = false ∧ (w5.setCell ⟨w3.heap.size, 0, none⟩ (.slice (some ⟨g, 0, none⟩) (n + 1) cap)).frozen? ⟨w.heap.size + 1, 1, none⟩ = false ∧ (w5.setCell ⟨w3.heap.size, 0, none⟩ (.slice (some ⟨g, 0, none⟩) (n + 1) cap)).frozen? ⟨w.heap.size + 1, 2, none⟩ = false ∧ (w5.setCell ⟨w3.heap.size, 0, none⟩ (.slice (some ⟨g, 0, none⟩) (n + 1) cap)).frozen? ⟨w.heap.size + 1, 3, none⟩ = false := by
  have hgX : ∃ cur, (w3.alloc (.cells #[.slice (some ⟨g0, 0, none⟩) n k0, .slice (some ⟨g1, 0, none⟩) m k1] 27)).heap[g0]? = some (.cells cur 9 (0, 0)) := by
    rcases HO.1.2 with ⟨e, _⟩ | ⟨g', c', cur, e, _, hh, _⟩
    · cases e
    · simp at e
      obtain ⟨rfl, rfl⟩ := e
      exact ⟨cur, hh⟩
  obtain ⟨cur, hcur⟩ := hgX
  have kp : ∀ {b : Nat} {cs : Array Value} {t : TypeId}, (w3.alloc (.cells #[.slice (some ⟨g0, 0, none⟩) n k0, .slice (some ⟨g1, 0, none⟩) m k1] 27)).heap[b]? = some (.cells cs t (0, 0)) → t ≠ 9 → w5.heap[b]? = some (.cells cs t (0, 0)) := by
    intro b cs t hb hne
    have hbl := lt_of_block hb
    have hbg : b ≠ g0 := by rintro rfl; rw [hb] at hcur; simp at hcur; exact hne hcur.2
    exact (hg.block b (by simp only [World.size_alloc] at hbl ⊢; omega) (by simpa [Value.ownBlock] using hbg)).trans ((Below.heap_alloc _ _ b hbl).trans hb)
  have hX5 := kp HX (by decide)
  have hR5 := kp HB.1 (by decide)
  have hA5 := kp HB.2.2 (by decide)
  have hne1 : w.heap.size + 1 ≠ w3.heap.size := by omega
  have hne0 : w.heap.size ≠ w3.heap.size := by omega
  have hB5 : Below w.heap.size w w5 := (HB.2.1.alloc HB.2.1.size _).grown hg (by have := HB.2.1.size; simp only [World.size_alloc] at this ⊢; omega) (fun j hj => by have := (HO.1.lt j hj).1; omega)
  have hX6 : (w5.setCell ⟨w3.heap.size, 0, none⟩ (.slice (some ⟨g, 0, none⟩) (n + 1) cap)).heap[w3.heap.size]? = some (.cells #[.slice (some ⟨g, 0, none⟩) (n + 1) cap, .slice (some ⟨g1, 0, none⟩) m k1] 27 (0, 0)) := by
    have := Joins.block_setCell (i := 0) hX5 (.slice (some ⟨g, 0, none⟩) (n + 1) cap)
    simpa using this
  have hR6 := (Below.heap_setCell w5 ⟨w3.heap.size, 0, none⟩ (.slice (some ⟨g, 0, none⟩) (n + 1) cap) (w.heap.size + 1) hne1).trans hR5
  have hA6 := (Below.heap_setCell w5 ⟨w3.heap.size, 0, none⟩ (.slice (some ⟨g, 0, none⟩) (n + 1) cap) w.heap.size hne0).trans hA5
  have hgr := keep_row (X := g0) hg ((Below.heap_alloc _ _ g0 (lt_of_block hcur)).trans hcur) (HO.2.alloc _) (by decide)
  refine ⟨(cells2 hX5).1, (cells2 hX5).2, Joins.unfrozen_of_block hX5 0, (cells2 hX6).1, (cells2 hX6).2, ⟨⟨hR6, hB5.setCell (p := ⟨w3.heap.size, 0, none⟩) (show w.heap.size ≤ w3.heap.size by omega) _, hA6⟩, row_set_other ho hX5 (by decide) _, row_set_other hgr hX5 (by decide) _⟩, cells4 hR6⟩

end Go.Proofs.YtajkihmefpbofaaGreatDoor

namespace Go.Proofs.YtajkihmefpbofaaGreatDoor
open Go.RowKit Go.Maps Go.WideMaps

theorem Chg.of_set {w : World} {lo hi b : Nat} (h1 : lo ≤ b) (h2 : b < hi) (i : Nat) (v : Value) : Chg w (w.setCell ⟨b, i, none⟩ v) lo hi :=
  ⟨rfl, rfl, rfl, by simp, fun k _ ho => Below.heap_setCell w ⟨b, i, none⟩ v k (show k ≠ b by omega)⟩

theorem TwG.chg {w w' : World} {base p lo hi : Nat} {l : List (Int × Int)} (h : TwG w base p l) (hc : Chg w w' lo hi) (hh : hi ≤ base) : TwG w' base p l := by
  obtain ⟨iv, B, hp, hbp, hbB, ho, ht⟩ := h
  refine ⟨iv, B, hc.keep hp (.inr (by omega)), hbp, hbB, hc.row ho (fun k hk => .inr (by have := (ho.lt k hk).1; omega)), ?_⟩
  obtain ⟨D, hD, hat⟩ := ht
  obtain ⟨es, ck, hes, rest⟩ := hD
  exact ⟨D, ⟨es, ck, (hc.block B (lt_of_block hes) (.inr (by omega))).trans hes, rest⟩, hat⟩

/-- The tables' own slices. -/
theorem TwS.rows {w : World} {base p : Nat} {l : List ByteArray} {n : Nat} (hn : l.length = n) (h : TwS w base p l) : ∃ a cap, w.cell? ⟨p, 0, none⟩ = some (.slice a n cap) ∧ p < w.heap.size ∧ Hid (w.ownsRow base 9 1 (.slice a n cap) n (l.map Value.string)) := by
  subst hn
  obtain ⟨iv, B, hp, hbp, hbB, ho, ht⟩ := h
  have hc : w.cell? ⟨p, 0, none⟩ = some iv := by unfold World.cell?; rw [hp]; rfl
  rcases id ho.2 with ⟨h1, h2⟩ | ⟨g, cap, cur, h1, _⟩
  · exact ⟨none, 0, by rw [hc, h1, h2], lt_of_block hp, by rw [h2]; subst h1; rw [h2] at ho; exact ho⟩
  · subst h1
    exact ⟨_, _, hc, lt_of_block hp, ho⟩
theorem TwG.rows {w : World} {base p : Nat} {l : List (Int × Int)} {n : Nat} (hn : l.length = n) (h : TwG w base p l) : ∃ a cap, w.cell? ⟨p, 0, none⟩ = some (.slice a n cap) ∧ p < w.heap.size ∧ Hid (w.ownsRow base 83 2 (.slice a n cap) n (gcells l)) := by
  subst hn
  obtain ⟨iv, B, hp, hbp, hbB, ho, ht⟩ := h
  have hc : w.cell? ⟨p, 0, none⟩ = some iv := by unfold World.cell?; rw [hp]; rfl
  rcases id ho.2 with ⟨h1, h2⟩ | ⟨g, cap, cur, h1, _⟩
  · exact ⟨none, 0, by rw [hc, h1, h2], lt_of_block hp, by rw [h2]; subst h1; rw [h2] at ho; exact ho⟩
  · subst h1
    exact ⟨_, _, hc, lt_of_block hp, ho⟩

set_option maxHeartbeats 400000 in
theorem bookL_any (p q n m ic jc : Nat) (ia ja : Option Addr) (w : World) (hpl : p < w.heap.size) (hql : q < w.heap.size) (hp : w.cell? ⟨p, 0, none⟩ = some (.slice ia n ic)) (hq : w.cell? ⟨q, 0, none⟩ = some (.slice ja m jc)) :
    Calls Tryz.prog 48 #[.agg #[.pointer (some ⟨p, 0, none⟩), .pointer (some ⟨q, 0, none⟩)]] w fun e w' => e = .returned (.agg #[.slice ia n ic, .slice ja m jc]) ∧ Below w.heap.size w w' := by
  have hp2 : ∀ o o', ((w.alloc o).alloc o').cell? ⟨p, 0, none⟩ = some (.slice ia n ic) := fun o o' => ((below_box2 o o').cell (p := ⟨p, 0, none⟩) hpl).trans hp
  have hq2 : ∀ o o', ((w.alloc o).alloc o').cell? ⟨q, 0, none⟩ = some (.slice ja m jc) := fun o o' => ((below_box2 o o').cell (p := ⟨q, 0, none⟩) hql).trans hq
  have hnp : p ≠ w.heap.size + 1 := by omega
  have hnq : q ≠ w.heap.size + 1 := by omega
  go_enter Tryz.func48, Tryz.ntmps48
  go_wp2
  go_region_held3 (fun w' => w'.cell? ⟨p, 0, none⟩ = some (.slice ia n ic) ∧ w'.cell? ⟨q, 0, none⟩ = some (.slice ja m jc) ∧ w'.cell? ⟨w.heap.size, 0, none⟩ = some (.pointer (some ⟨p, 0, none⟩)) ∧ w'.cell? ⟨w.heap.size, 1, none⟩ = some (.pointer (some ⟨q, 0, none⟩))) (go_keep) (fail)
  go_wp2
  refine bodyPost_ret (v := .agg #[.slice ia n ic, .slice ja m jc]) (by simp [results, Tryz.results48, go_sem]) rfl ⟨rfl, ?_⟩
  exact (below_box2 _ _).drew

end Go.Proofs.YtajkihmefpbofaaGreatDoor

namespace Go.Proofs.YtajkihmefpbofaaGreatDoor
open Go.RowKit Go.Maps Go.WideMaps

/-- The program's reading of a ledger that lies boxed, a result of four cells behind it: where it has no fault. -/
theorem read4_ok {w : World} {n m tc gc : Nat} {ta ga : Option Addr} {ss : List ByteArray} {gs : List (Int × Int)} (hf : Fine ss gs) (h : LedAt w ta n ga m ss gs) (h0 : 0 = flt ss gs) :
    Calls Tryz.prog 21 #[.agg #[.slice ta n tc, .slice ga m gc]] ((w.alloc (.cells #[.slice ta n tc, .slice ga m gc] 27)).alloc (.cells #[.int .i64 0, .int .i64 0, .slice none 0 0, .slice none 0 0] 44)) fun e w' => ∃ p q top, e = .returned (.tuple #[.agg #[.pointer (some ⟨p, 0, none⟩), .pointer (some ⟨q, 0, none⟩)], .int .i64 0]) ∧
      Hid (Box4 w w' (.slice ta n tc) (.slice ga m gc) 27) ∧ Hid (TwS w' (w.heap.size + 2) p ss ∧ TopS w' p top ∧ TwG w' top q gs ∧ w.heap.size + 2 ≤ top) := by
  have hb : Below w.heap.size w ((w.alloc (.cells #[.slice ta n tc, .slice ga m gc] 27)).alloc (.cells #[.int .i64 0, .int .i64 0, .slice none 0 0, .slice none 0 0] 44)) := below_box2 _ _
  refine (readLedger_any n m tc gc ta ga ss gs _ hf.s hf.g (h.s.below hb (Nat.le_refl _)) (h.g.below hb (Nat.le_refl _))).mono fun e w' hr => ?_
  rcases hr with ⟨hbl, ⟨_, p, q, top, he, h1, h2, h3, h4⟩ | ⟨hn, _⟩⟩
  · have hs : ((w.alloc (.cells #[.slice ta n tc, .slice ga m gc] 27)).alloc (.cells #[.int .i64 0, .int .i64 0, .slice none 0 0, .slice none 0 0] 44)).heap.size = w.heap.size + 2 := by simp
    rw [hs] at h1 h4
    exact ⟨p, q, top, he, Box4.start hbl, h1, h2, h3, h4⟩
  · exact absurd h0.symm hn

theorem read4_bad {w : World} {n m tc gc : Nat} {ta ga : Option Addr} {ss : List ByteArray} {gs : List (Int × Int)} {c : Int} (hf : Fine ss gs) (h : LedAt w ta n ga m ss gs) (hc : c = flt ss gs) (h0 : ¬ c = 0) :
    Calls Tryz.prog 21 #[.agg #[.slice ta n tc, .slice ga m gc]] ((w.alloc (.cells #[.slice ta n tc, .slice ga m gc] 27)).alloc (.cells #[.int .i64 0, .int .i64 0, .slice none 0 0, .slice none 0 0] 44)) fun e w' => e = .returned (.tuple #[.agg #[.pointer none, .pointer none], .int .i64 c]) ∧ Hid (Box4 w w' (.slice ta n tc) (.slice ga m gc) 27) := by
  have hb : Below w.heap.size w ((w.alloc (.cells #[.slice ta n tc, .slice ga m gc] 27)).alloc (.cells #[.int .i64 0, .int .i64 0, .slice none 0 0, .slice none 0 0] 44)) := below_box2 _ _
  refine (readLedger_any n m tc gc ta ga ss gs _ hf.s hf.g (h.s.below hb (Nat.le_refl _)) (h.g.below hb (Nat.le_refl _))).mono fun e w' hr => ?_
  rcases hr with ⟨hbl, ⟨hn, _⟩ | ⟨_, he⟩⟩
  · exact absurd (hc.trans hn) h0
  · exact ⟨by rw [hc]; exact he, Box4.start hbl⟩

/-- The program's book in block K, its two tables, and the result under way. -/
structure Bk (w V : World) (K p q : Nat) (ss : List ByteArray) (gs : List (Int × Int)) (a0 a1 : Value) : Prop where
  r : Box4 w V a0 a1 27
  k : V.heap[K]? = some (.cells #[.pointer (some ⟨p, 0, none⟩), .pointer (some ⟨q, 0, none⟩)] 55 (0, 0))
  s : TwS V (w.heap.size + 2) p ss
  g : TwG V (w.heap.size + 2) q gs

theorem Bk.step {w V V' : World} {K p q : Nat} {ss : List ByteArray} {gs : List (Int × Int)} {a0 a1 : Value} (h : Bk w V K p q ss gs a0 a1) (hb : Below V.heap.size V V') : Bk w V' K p q ss gs a0 a1 :=
  ⟨(h.r.step hb).out, (keepb h.k hb).out, h.s.below hb, h.g.below hb⟩

theorem Bk.tail {w V : World} {K p q : Nat} {ss : List ByteArray} {gs : List (Int × Int)} {a0 a1 : Value} {n m : Nat} (h : Bk w V K p q ss gs a0 a1) (hn : ss.length = n) (hm : gs.length = m) :
    ∃ ia ic ja jc, Hid (Calls Tryz.prog 48 #[.agg #[.pointer (some ⟨p, 0, none⟩), .pointer (some ⟨q, 0, none⟩)]] V.drew fun e w' => e = .returned (.agg #[.slice ia n ic, .slice ja m jc]) ∧ Below V.heap.size V w') ∧
      Hid (V.ownsRow (w.heap.size + 2) 9 1 (.slice ia n ic) n (ss.map Value.string) ∧ V.ownsRow (w.heap.size + 2) 83 2 (.slice ja m jc) m (gcells gs)) := by
  obtain ⟨ia, ic, hi, hip, HI⟩ := h.s.rows hn
  obtain ⟨ja, jc, hj, hjp, HJ⟩ := h.g.rows hm
  refine ⟨ia, ic, ja, jc, ?_, HI.out, HJ.out⟩
  exact (bookL_any p q n m ic jc ia ja V.drew hip hjp hi hj).mono fun e w' hr => ⟨hr.1, (Below.refl _ _).drew.trans hr.2⟩

/-- What the end of NoteText and SignId leaves. -/
theorem Bk.out {w V V' : World} {K p q : Nat} {ss : List ByteArray} {gs : List (Int × Int)} {a0 a1 : Value} {n m ic jc : Nat} {ia ja : Option Addr} (h : Bk w V K p q ss gs a0 a1) (hn : ss.length = n) (hm : gs.length = m) (hb : Below V.heap.size V V')
    (hr : V.ownsRow (w.heap.size + 2) 9 1 (.slice ia n ic) n (ss.map Value.string) ∧ V.ownsRow (w.heap.size + 2) 83 2 (.slice ja m jc) m (gcells gs)) (i : Int) (v0 v1 v2 v3 : Value) :
    OutL w ((((V'.setCell ⟨w.heap.size + 1, 0, none⟩ v0).setCell ⟨w.heap.size + 1, 1, none⟩ v1).setCell ⟨w.heap.size + 1, 2, none⟩ v2).setCell ⟨w.heap.size + 1, 3, none⟩ v3) (.returned (.agg #[.int .i64 0, .int .i64 i, .slice ia n ic, .slice ja m jc])) ⟨0, i, ss, gs⟩ := by
  subst hn hm
  have r1 := hr.1.kept (grown_of_below hb) (by cases Value.ownBlock (.slice ia ss.length ic) <;> simp)
  have r2 := hr.2.kept (grown_of_below hb) (by cases Value.ownBlock (.slice ja gs.length jc) <;> simp)
  exact ⟨below_res4 (h.r.step hb).out.2.1 _ _ _ _, ia, ic, ja, jc, rfl, row_res4 r1 (by omega) (by omega) _ _ _ _, row_res4 r2 (by omega) (by omega) _ _ _ _⟩

theorem k4 {W : World} {b c : Nat} {v0 v1 v2 v3 : Value} (h : c ≠ b) : ((((W.setCell ⟨b, 0, none⟩ v0).setCell ⟨b, 1, none⟩ v1).setCell ⟨b, 2, none⟩ v2).setCell ⟨b, 3, none⟩ v3).heap[c]? = W.heap[c]? :=
  (Below.heap_setCell _ ⟨b, 3, none⟩ _ c h).trans ((Below.heap_setCell _ ⟨b, 2, none⟩ _ c h).trans ((Below.heap_setCell _ ⟨b, 1, none⟩ _ c h).trans (Below.heap_setCell _ ⟨b, 0, none⟩ _ c h)))

end Go.Proofs.YtajkihmefpbofaaGreatDoor

namespace Go.Proofs.YtajkihmefpbofaaGreatDoor
open Go.RowKit

theorem flt_parts {ss : List ByteArray} {gs : List (Int × Int)} (h : flt ss gs = 0) : ss.length ≤ 60 ∧ gs.length ≤ 120 ∧ tgo [] ss = 0 ∧ sgo ss.length [] gs = 0 := by
  unfold flt at h
  split at h
  · cases h
  · rename_i h1
    split at h
    · rename_i h2; exact absurd h h2
    · rename_i h2
      exact ⟨by omega, by omega, by simpa using h2, h⟩
theorem flt_make {ss : List ByteArray} {gs : List (Int × Int)} (h1 : ss.length ≤ 60) (h2 : gs.length ≤ 120) (h3 : tgo [] ss = 0) (h4 : sgo ss.length [] gs = 0) : flt ss gs = 0 := by
  unfold flt
  rw [if_neg (by omega), if_neg (by simp [h3]), h4]

end Go.Proofs.YtajkihmefpbofaaGreatDoor

namespace Go.Proofs.YtajkihmefpbofaaGreatDoor
open Go.RowKit Go.Maps Go.WideMaps

def signR (ss : List ByteArray) (gs : List (Int × Int)) (a b : Int) : LRes :=
  if flt ss gs ≠ 0 then ⟨flt ss gs, 0, [], []⟩ else if inB a 1 999 = false ∨ inB b 1 ss.length = false then ⟨3, 0, [], []⟩ else if memB gs (a, b) = true then ⟨0, b, ss, gs⟩ else if 120 ≤ gs.length then ⟨2, 0, [], []⟩ else ⟨0, b, ss, gs ++ [(a, b)]⟩

section
variable {ss : List ByteArray} {gs : List (Int × Int)} {a b : Int} {n m : Nat}
theorem signR_bad {c : Int} (h : c = flt ss gs) (h0 : c ≠ 0) : signR ss gs a b = ⟨c, 0, [], []⟩ := by unfold signR; rw [← h, if_pos h0]
theorem signR_range (hn : ss.length = n) (h : 0 = flt ss gs) (h1 : inB a 1 999 = false ∨ inB b 1 n = false) : signR ss gs a b = ⟨3, 0, [], []⟩ := by unfold signR; rw [← h, if_neg (by simp), hn, if_pos h1]
theorem signR_old (hn : ss.length = n) (h : 0 = flt ss gs) (h1 : inB a 1 999 = true) (h2 : inB b 1 n = true) (hk : true = memB gs (a, b)) : signR ss gs a b = ⟨0, b, ss, gs⟩ := by unfold signR; rw [← h, if_neg (by simp), hn, if_neg (by simp [h1, h2]), if_pos hk.symm]
theorem signR_full (hn : ss.length = n) (hm : gs.length = m) (h : 0 = flt ss gs) (h1 : inB a 1 999 = true) (h2 : inB b 1 n = true) (hk : false = memB gs (a, b)) (h120 : 120 ≤ m) : signR ss gs a b = ⟨2, 0, [], []⟩ := by unfold signR; rw [← h, if_neg (by simp), hn, if_neg (by simp [h1, h2]), if_neg (by simp [← hk]), hm, if_pos h120]
theorem signR_new (hn : ss.length = n) (hm : gs.length = m) (h : 0 = flt ss gs) (h1 : inB a 1 999 = true) (h2 : inB b 1 n = true) (hk : false = memB gs (a, b)) (h120 : ¬ 120 ≤ m) : signR ss gs a b = ⟨0, b, ss, gs ++ [(a, b)]⟩ := by unfold signR; rw [← h, if_neg (by simp), hn, if_neg (by simp [h1, h2]), if_neg (by simp [← hk]), hm, if_neg h120]
end

/-- What the append of a signature leaves. -/
theorem sg_new {w V w5 : World} {a0 a1 : Value} {n m g0 k0 g1 k1 g cap base K : Nat} {ss : List ByteArray} {gs : List (Int × Int)} {o : Obj} {zs : List Value}
    (HB : Box4 w V a0 a1 27) (HO : OwnL V base n m ss gs g0 k0 g1 k1) (HX : V.heap[K]? = some (.cells #[.slice (some ⟨g0, 0, none⟩) n k0, .slice (some ⟨g1, 0, none⟩) m k1] 27 (0, 0)))
    (ho : w5.ownsRow base 83 2 (.slice (some ⟨g, 0, none⟩) (m + 1) cap) (m + 1) zs) (hg : (V.alloc o).grownBy w5 (Value.ownBlock (.slice (some ⟨g1, 0, none⟩) m k1))) (h12 : w.heap.size + 1 < base) (h23 : base ≤ K) :
    w5.cell? ⟨K, 0, none⟩ = some (.slice (some ⟨g0, 0, none⟩) n k0) ∧ w5.cell? ⟨K, 1, none⟩ = some (.slice (some ⟨g1, 0, none⟩) m k1) ∧ w5.frozen? ⟨K, 1, none⟩ = false ∧
    (w5.setCell ⟨K, 1, none⟩ (.slice (some ⟨g, 0, none⟩) (m + 1) cap)).cell? ⟨K, 0, none⟩ = some (.slice (some ⟨g0, 0, none⟩) n k0) ∧
    (w5.setCell ⟨K, 1, none⟩ (.slice (some ⟨g, 0, none⟩) (m + 1) cap)).cell? ⟨K, 1, none⟩ = some (.slice (some ⟨g, 0, none⟩) (m + 1) cap) ∧
    Hid (Box4 w (w5.setCell ⟨K, 1, none⟩ (.slice (some ⟨g, 0, none⟩) (m + 1) cap)) a0 a1 27 ∧ (w5.setCell ⟨K, 1, none⟩ (.slice (some ⟨g, 0, none⟩) (m + 1) cap)).ownsRow base 9 1 (.slice (some ⟨g0, 0, none⟩) n k0) n (ss.map Value.string) ∧
      (w5.setCell ⟨K, 1, none⟩ (.slice (some ⟨g, 0, none⟩) (m + 1) cap)).ownsRow base 83 2 (.slice (some ⟨g, 0, none⟩) (m + 1) cap) (m + 1) zs) ∧
    (w5.setCell ⟨K, 1, none⟩ (.slice (some ⟨g, 0, none⟩) (m + 1) cap)).cell? ⟨w.heap.size + 1, 0, none⟩ = some (.int .i64 0) ∧ (w5.setCell ⟨K, 1, none⟩ (.slice (some ⟨g, 0, none⟩) (m + 1) cap)).cell? ⟨w.heap.size + 1, 1, none⟩ = some (.int .i64 0) ∧ (w5.setCell ⟨K, 1, none⟩ (.slice (some ⟨g, 0, none⟩) (m + 1) cap)).cell? ⟨w.heap.size + 1, 2, none⟩ = some (.slice none 0 0) ∧ (w5.setCell ⟨K, 1, none⟩ (.slice (some ⟨g, 0, none⟩) (m + 1) cap)).cell? ⟨w.heap.size + 1, 3, none⟩ = some (.slice none 0 0) ∧
    (w5.setCell ⟨K, 1, none⟩ (.slice (some ⟨g, 0, none⟩) (m + 1) cap)).frozen? ⟨w.heap.size + 1, 0, none⟩ = false ∧ (w5.setCell ⟨K, 1, none⟩ (.slice (some ⟨g, 0, none⟩) (m + 1) cap)).frozen? ⟨w.heap.size + 1, 1, none⟩ = false ∧ (w5.setCell ⟨K, 1, none⟩ (.slice (some ⟨g, 0, none⟩) (m + 1) cap)).frozen? ⟨w.heap.size + 1, 2, none⟩ = false ∧ (w5.setCell ⟨K, 1, none⟩ (.slice (some ⟨g, 0, none⟩) (m + 1) cap)).frozen? ⟨w.heap.size + 1, 3, none⟩ = false := by
  have hgX : ∃ cur, V.heap[g1]? = some (.cells cur 83 (0, 0)) := by
    rcases HO.2.2 with ⟨e, _⟩ | ⟨g', c', cur, e, _, hh, _⟩
    · cases e
    · simp at e
      obtain ⟨rfl, rfl⟩ := e
      exact ⟨cur, hh⟩
  obtain ⟨cur, hcur⟩ := hgX
  have kp : ∀ {b : Nat} {cs : Array Value} {t : TypeId}, V.heap[b]? = some (.cells cs t (0, 0)) → t ≠ 83 → w5.heap[b]? = some (.cells cs t (0, 0)) := by
    intro b cs t hb hne
    have hbl := lt_of_block hb
    have hbg : b ≠ g1 := by rintro rfl; rw [hb] at hcur; simp at hcur; exact hne hcur.2
    exact (hg.block b (by simp only [World.size_alloc]; omega) (by simpa [Value.ownBlock] using hbg)).trans ((Below.heap_alloc _ _ b hbl).trans hb)
  have hX5 := kp HX (by decide)
  have hR5 := kp HB.1 (by decide)
  have hA5 := kp HB.2.2 (by decide)
  have hne1 : w.heap.size + 1 ≠ K := by omega
  have hne0 : w.heap.size ≠ K := by omega
  have hB5 : Below w.heap.size w w5 := (HB.2.1.alloc HB.2.1.size _).grown hg (by have := HB.2.1.size; simp only [World.size_alloc] at this ⊢; omega) (fun j hj => by have := (HO.2.lt j hj).1; omega)
  have hX6 : (w5.setCell ⟨K, 1, none⟩ (.slice (some ⟨g, 0, none⟩) (m + 1) cap)).heap[K]? = some (.cells #[.slice (some ⟨g0, 0, none⟩) n k0, .slice (some ⟨g, 0, none⟩) (m + 1) cap] 27 (0, 0)) := by
    have := Joins.block_setCell (i := 1) hX5 (.slice (some ⟨g, 0, none⟩) (m + 1) cap)
    simpa using this
  have hR6 := (Below.heap_setCell w5 ⟨K, 1, none⟩ (.slice (some ⟨g, 0, none⟩) (m + 1) cap) (w.heap.size + 1) hne1).trans hR5
  have hA6 := (Below.heap_setCell w5 ⟨K, 1, none⟩ (.slice (some ⟨g, 0, none⟩) (m + 1) cap) w.heap.size hne0).trans hA5
  have hgr := keep_row (X := g1) hg ((Below.heap_alloc _ _ g1 (lt_of_block hcur)).trans hcur) (HO.1.alloc _) (by decide)
  refine ⟨(cells2 hX5).1, (cells2 hX5).2, Joins.unfrozen_of_block hX5 1, (cells2 hX6).1, (cells2 hX6).2, ⟨⟨hR6, hB5.setCell (p := ⟨K, 1, none⟩) (show w.heap.size ≤ K by omega) _, hA6⟩, row_set_other hgr hX5 (by decide) _, row_set_other ho hX5 (by decide) _⟩, cells4 hR6⟩

/-- What lies behind the copy and the signature's box. -/
structure Sx (w V : World) (a0 a1 : Value) (base K X n m : Nat) (ss : List ByteArray) (gs : List (Int × Int)) (g0 k0 g1 k1 : Nat) (a b : Int) : Prop where
  r : Box4 w V a0 a1 27
  o : OwnL V base n m ss gs g0 k0 g1 k1
  k : V.heap[K]? = some (.cells #[.slice (some ⟨g0, 0, none⟩) n k0, .slice (some ⟨g1, 0, none⟩) m k1] 27 (0, 0))
  x : V.heap[X]? = some (.cells #[.int .i64 a, .int .i64 b] 83 (0, 0))

theorem Sx.step {w V V' : World} {a0 a1 : Value} {base K X n m : Nat} {ss : List ByteArray} {gs : List (Int × Int)} {g0 k0 g1 k1 : Nat} {a b : Int} (h : Sx w V a0 a1 base K X n m ss gs g0 k0 g1 k1 a b) (hb : Below V.heap.size V V') : Sx w V' a0 a1 base K X n m ss gs g0 k0 g1 k1 a b :=
  ⟨(h.r.step hb).out, h.o.below hb, (keepb h.k hb).out, (keepb h.x hb).out⟩

theorem Sx.start {w w2 w3 : World} {a0 a1 : Value} {n m : Nat} {ss : List ByteArray} {gs : List (Int × Int)} {g0 k0 g1 k1 : Nat} {a b : Int} (h : Box4 w w2 a0 a1 27) (ho : OwnL w3 w2.heap.size n m ss gs g0 k0 g1 k1) (hb : Below w2.heap.size w2 w3) :
    Sx w ((w3.alloc (.cells #[.slice (some ⟨g0, 0, none⟩) n k0, .slice (some ⟨g1, 0, none⟩) m k1] 27)).alloc (.cells #[.int .i64 a, .int .i64 b] 83)) a0 a1 w2.heap.size w3.heap.size (w3.heap.size + 1) n m ss gs g0 k0 g1 k1 a b :=
  ⟨((h.step hb).out.step (below_box2 _ _)).out, ho.below (below_box2 _ _), block_at2, heap_at _ _ _ (by simp)⟩

end Go.Proofs.YtajkihmefpbofaaGreatDoor

namespace Go.Proofs.YtajkihmefpbofaaGreatDoor
open Go.RowKit Go.Maps Go.WideMaps
attribute [local go_sem ↓] Go.wp_at_zero Go.wp_at_succ

def TopG (w : World) (p top : Nat) : Prop := ∀ iv B, w.heap[p]? = some (.cells #[iv, .map (some B)] 114 (0, 0)) → p < top ∧ B < top ∧ ∀ k, iv.ownBlock = some k → k < top
theorem TwG.top {w : World} {base p : Nat} {l : List (Int × Int)} (h : TwG w base p l) : TopG w p w.heap.size := by
  obtain ⟨iv, B, hp, _, _, ho, ht⟩ := h
  intro iv' B' hp'
  rw [hp] at hp'
  simp at hp'
  obtain ⟨rfl, rfl⟩ := hp'
  exact ⟨lt_of_block hp, ht.lt, fun k hk => (ho.lt k hk).2⟩
theorem TopG.of_block {w w' : World} {p top : Nat} (h : TopG w p top) (hb : w'.heap[p]? = w.heap[p]?) : TopG w' p top := fun iv B hp => h iv B (hb ▸ hp)
theorem TwS.chgT {w w' : World} {base p top hi : Nat} {l : List ByteArray} (h : TwS w base p l) (ht : TopS w p top) (hc : Chg w w' top hi) : TwS w' base p l := by
  obtain ⟨iv, B, hp, hbp, hbB, ho, hT⟩ := h
  obtain ⟨t1, t2, t3⟩ := ht _ _ hp
  refine ⟨iv, B, hc.keep hp (.inl t1), hbp, hbB, hc.row ho (fun k hk => .inl (t3 k hk)), ?_⟩
  obtain ⟨D, hD, hat⟩ := hT
  obtain ⟨es, ck, hes, rest⟩ := hD
  exact ⟨D, ⟨es, ck, (hc.block B (lt_of_block hes) (.inl t2)).trans hes, rest⟩, hat⟩
theorem chg_append {w W : World} {o : Obj} {row : Option Nat} {lo hi : Nat} (hg : (w.alloc o).drew.grownBy W row) (hr : ∀ k, row = some k → lo ≤ k ∧ k < hi) : Chg w W lo hi := by
  have h2 : (w.alloc o).grownBy W row := ⟨hg.os, hg.tape, hg.output, hg.size, hg.block⟩
  exact (Chg.of_below (below_box _) lo hi).trans (Chg.of_grown h2 hr)

/-- From the store into the field to the store into the map. -/
theorem addGF_end {w w1 : World} {base p B g cap b0 ic : Nat} {ia : Option Addr} {l : List (Int × Int)} {a b : Int} (hl : l.length ≤ 200) (ha : (Lit.int .i64 a).wf = true) (hb : (Lit.int .i64 b).wf = true) (hn : num l (a, b) = 0) (hbp : base ≤ p) (hbB : base ≤ B)
    (h : w1.heap[p]? = some (.cells #[.slice ia l.length ic, .map (some B)] 114 (0, 0)) ∧ p ≠ g ∧ Tab 83 encG w1 B l ∧ p ≠ B ∧ Below base w w1 ∧ w1.heap[b0]? = some (.cells #[.int .i64 a, .int .i64 b] 83 (0, 0)) ∧
        w1.ownsRow base 83 2 (.slice (some ⟨g, 0, none⟩) (l.length + 1) cap) (l.length + 1) (gcells l ++ [.int .i64 a, .int .i64 b])) :
    ∃ w5, (Instr.mapUpdate 112 (.map (some B)) (.agg #[.int .i64 a, .int .i64 b]) (.int .i64 ((l.length : Int) + 1))).run Tryz.prog (w1.setCell ⟨p, 0, none⟩ (.slice (some ⟨g, 0, none⟩) (l.length + 1) cap)).drew = .ok () w5 ∧
      (w1.setCell ⟨p, 0, none⟩ (.slice (some ⟨g, 0, none⟩) (l.length + 1) cap)).cell? ⟨p, 0, none⟩ = some (.slice (some ⟨g, 0, none⟩) (l.length + 1) cap) ∧
      (w1.setCell ⟨p, 0, none⟩ (.slice (some ⟨g, 0, none⟩) (l.length + 1) cap)).cell? ⟨p, 1, none⟩ = some (.map (some B)) ∧
      (w1.setCell ⟨p, 0, none⟩ (.slice (some ⟨g, 0, none⟩) (l.length + 1) cap)).cell? ⟨b0, 0, none⟩ = some (.int .i64 a) ∧
      (w1.setCell ⟨p, 0, none⟩ (.slice (some ⟨g, 0, none⟩) (l.length + 1) cap)).cell? ⟨b0, 1, none⟩ = some (.int .i64 b) ∧
      w5.cell? ⟨p, 0, none⟩ = some (.slice (some ⟨g, 0, none⟩) (l.length + 1) cap) ∧ w5.cell? ⟨p, 1, none⟩ = some (.map (some B)) ∧ w5.cell? ⟨b0, 0, none⟩ = some (.int .i64 a) ∧ w5.cell? ⟨b0, 1, none⟩ = some (.int .i64 b) ∧
      Hid (TwG w5 base p (l ++ [(a, b)]) ∧ Below base w w5 ∧ ∀ top, p < top → B < top → Chg w1 w5 base top) := by
  obtain ⟨hp1, hgp, ht1, hpB, hb1, hbx1, ho1⟩ := h
  obtain ⟨kl, hk⟩ := keyG ha hb
  have hpb : p ≠ b0 := by rintro rfl; rw [hp1] at hbx1; simp at hbx1
  have hBb : B ≠ b0 := by
    rintro rfl
    obtain ⟨D, ⟨es, ck, hes, _⟩, _⟩ := ht1
    rw [hes] at hbx1; simp at hbx1
  have hgB : g ≠ B := by
    rintro rfl
    obtain ⟨D, ⟨es, ck, hes, _⟩, _⟩ := ht1
    rcases ho1.2 with ⟨h, _⟩ | ⟨g', c', cur, h, _, hh, _⟩
    · cases h
    · simp at h
      rw [← h.1, hes] at hh
      simp at hh
  have hp2 : (w1.setCell ⟨p, 0, none⟩ (.slice (some ⟨g, 0, none⟩) (l.length + 1) cap)).heap[p]? = some (.cells #[.slice (some ⟨g, 0, none⟩) (l.length + 1) cap, .map (some B)] 114 (0, 0)) := by
    have := Joins.block_setCell (i := 0) hp1 (.slice (some ⟨g, 0, none⟩) (l.length + 1) cap)
    simpa using this
  have hb2 : (w1.setCell ⟨p, 0, none⟩ (.slice (some ⟨g, 0, none⟩) (l.length + 1) cap)).heap[b0]? = some (.cells #[.int .i64 a, .int .i64 b] 83 (0, 0)) := (Below.heap_setCell w1 ⟨p, 0, none⟩ _ b0 (Ne.symm hpb)).trans hbx1
  have ht2 := ht1.setCell (a := ⟨p, 0, none⟩) (Ne.symm hpB) (.slice (some ⟨g, 0, none⟩) (l.length + 1) cap)
  obtain ⟨w5, hrun, ht5, hg5⟩ := (ht2.drew).store kG encG_inj Tryz.underlying112 (x := (a, b)) hk hn (by omega) (c := (l.length : Int) + 1) rfl
  have hp5 := (hg5.block p (lt_of_block (w := (w1.setCell ⟨p, 0, none⟩ (.slice (some ⟨g, 0, none⟩) (l.length + 1) cap)).drew) hp2) (by simpa using hpB)).trans hp2
  have hb5 := (hg5.block b0 (lt_of_block (w := (w1.setCell ⟨p, 0, none⟩ (.slice (some ⟨g, 0, none⟩) (l.length + 1) cap)).drew) hb2) (by simpa using Ne.symm hBb)).trans hb2
  refine ⟨w5, hrun, by unfold World.cell?; rw [hp2]; rfl, by unfold World.cell?; rw [hp2]; rfl, by unfold World.cell?; rw [hb2]; rfl, by unfold World.cell?; rw [hb2]; rfl, by unfold World.cell?; rw [hp5]; rfl, by unfold World.cell?; rw [hp5]; rfl, by unfold World.cell?; rw [hb5]; rfl, by unfold World.cell?; rw [hb5]; rfl, ?_⟩
  have r1 := (ownsRow_setCell_other ho1 (a := ⟨p, 0, none⟩) (by simpa [Value.ownBlock] using Ne.symm hgp) (.slice (some ⟨g, 0, none⟩) (l.length + 1) cap)).drew.kept hg5 (by simp [Value.ownBlock]; exact hgB)
  refine ⟨⟨_, B, hp5, hbp, hbB, by simpa [gcells] using r1, ht5⟩, ?_, fun top t1 t2 => ?_⟩
  rotate_left
  · have q2 : Chg w1 (w1.setCell ⟨p, 0, none⟩ (.slice (some ⟨g, 0, none⟩) (l.length + 1) cap)) base top := Chg.of_set hbp t1 _ _
    have q3 : Chg (w1.setCell ⟨p, 0, none⟩ (.slice (some ⟨g, 0, none⟩) (l.length + 1) cap)).drew w5 base top := Chg.of_grown hg5 (fun k hk => by cases hk; exact ⟨hbB, t2⟩)
    exact q2.trans ⟨q3.os, q3.tape, q3.output, q3.size, q3.block⟩
  exact (hb1.setCell (p := ⟨p, 0, none⟩) hbp _).drew.grown hg5 (Nat.le_trans hbp (Nat.le_of_lt (lt_of_block hp2))) (fun k h => by cases h; exact hbB)

set_option maxRecDepth 20000 in
set_option maxHeartbeats 1000000 in
theorem addG_frame (p base : Nat) (l : List (Int × Int)) (a b : Int) (w : World) (hl : l.length ≤ 200) (ha : (Lit.int .i64 a).wf = true) (hb : (Lit.int .i64 b).wf = true) (hn : num l (a, b) = 0) (hbw : base ≤ w.heap.size) (h : TwG w base p l) :
    Calls Tryz.prog 47 #[.pointer (some ⟨p, 0, none⟩), .agg #[.int .i64 a, .int .i64 b]] w fun e w' => e = .returned (.bool true) ∧ TwG w' base p (l ++ [(a, b)]) ∧ Below base w w' ∧ ∀ top, TopG w p top → Chg w w' base top := by
  have hbx : Below w.heap.size w (w.alloc (.cells #[.int .i64 a, .int .i64 b] 83)) := (Below.refl _ _).alloc (Nat.le_refl _) _
  have h1 := h.below hbx
  have H0 : Hid (TwG w base p l) := h
  clear h
  have hnum : Calls Tryz.prog 45 #[.pointer (some ⟨p, 0, none⟩), .agg #[.int .i64 a, .int .i64 b]] (w.alloc (.cells #[.int .i64 a, .int .i64 b] 83)) fun e w' => e = .returned (.int .i64 0) ∧ Below (w.alloc (.cells #[.int .i64 a, .int .i64 b] 83)).heap.size (w.alloc (.cells #[.int .i64 a, .int .i64 b] 83)) w' := by
    obtain ⟨iv, B, hp, hbp, hbB, ho, ht⟩ := h1
    have := numG_any p B l a b _ ha hb (lt_of_block hp) (by unfold World.cell?; rw [hp]; rfl) ht
    rwa [hn] at this
  have HN : Hid (num l (a, b) = 0) := hn
  have HBX : Hid (Below w.heap.size w (w.alloc (.cells #[.int .i64 a, .int .i64 b] 83))) := hbx
  clear h1 hn hbx
  obtain ⟨i0, hi, hz0, hz1, hz2⟩ := info_parts Tryz.infoSig
  go_enter Tryz.func47, Tryz.ntmps47
  go_wp2_with (first | (go_at_call 45; refine hnum.mono ?_; rintro e w2 ⟨rfl, hb2⟩))
  clear hnum
  have hbw2 : Below w.heap.size w w2 := HBX.out.trans (hb2.mono (by simp))
  obtain ⟨iv, B, hp0, hbp, hbB, ho0, ht0⟩ := H0.out
  have hp := (hbw2.block p (lt_of_block hp0)).trans hp0
  have ho := ho0.kept (grown_of_below hbw2) (by cases iv.ownBlock <;> simp)
  have ht := ht0.kept (grown_of_below hbw2) (by simp)
  have hnb : iv.ownBlock ≠ some w.heap.size := fun e => by have := (ho0.lt _ e).2; omega
  have HB2 : Hid (Below w.heap.size w w2) := hbw2
  have HP0 : Hid (w.heap[p]? = some (.cells #[iv, .map (some B)] 114 (0, 0))) := hp0
  clear hp0 ho0 ht0 hbw2
  have hpl : p < w2.heap.size := lt_of_block hp
  obtain ⟨ia, ic, hiv⟩ : ∃ ia ic, iv = .slice ia l.length ic := by
    rcases ho.2 with ⟨h1, h2⟩ | ⟨g, cap, cur, h1, _⟩
    · exact ⟨none, 0, by rw [h2]; exact h1⟩
    · exact ⟨_, _, h1⟩
  subst hiv
  have c0 : w2.cell? ⟨p, 0, none⟩ = some (.slice ia l.length ic) := by unfold World.cell?; rw [hp]; rfl
  have hbox : w2.heap[w.heap.size]? = some (.cells #[.int .i64 a, .int .i64 b] 83 (0, 0)) := (hb2.block w.heap.size (by simp)).trans (heap_alloc_new w _)
  have x0 : w2.cell? ⟨w.heap.size, 0, none⟩ = some (.int .i64 a) := by unfold World.cell?; rw [hbox]; rfl
  have x1 : w2.cell? ⟨w.heap.size, 1, none⟩ = some (.int .i64 b) := by unfold World.cell?; rw [hbox]; rfl
  have f0 : w2.frozen? ⟨p, 0, none⟩ = false := Joins.unfrozen_of_block hp 0
  have hpx : p ≠ w.heap.size := by rintro rfl; rw [hp] at hbox; simp at hbox
  have HP : Hid (w2.heap[p]? = some (.cells #[.slice ia l.length ic, .map (some B)] 114 (0, 0)) ∧ base ≤ p ∧ base ≤ B ∧ Tab 83 encG w2 B l ∧ w2.heap[w.heap.size]? = some (.cells #[.int .i64 a, .int .i64 b] 83 (0, 0)) ∧ Value.ownBlock (.slice ia l.length ic) ≠ some w.heap.size) := ⟨hp, hbp, hbB, ht, hbox, hnb⟩
  have HO : Hid (w2.ownsRow base 83 2 (.slice ia l.length ic) l.length (gcells l)) := ho
  clear hp ht hbox hnb ho
  have hlen : l.length + 1 ≤ maxLen := by unfold maxLen; omega
  have hbase2 : base ≤ w2.heap.size := Nat.le_trans hbw (by have := hb2.size; simp at this; omega)
  go_region_law
    ((refine step_append_lies _ (by rfl) _ _ _ (by rfl) base 83 i0 (.agg #[.int .i64 0, .int .i64 0]) 2 16 Tryz.underlying25 hi hz0 hz1 hz2 rfl (by omega) (.slice ia l.length ic) l.length (gcells l) (by rfl) (by first | exact (HO.out.alloc _).drew | exact HO.out.drew.alloc _) ⟨w2.heap.size, 0, none⟩ 1 1 [.int .i64 a, .int .i64 b] (by rfl) (by rfl) (news2 (by first | exact heap_alloc_new w2 _ | exact heap_alloc_new w2.drew _)) one2 (by omega) hlen (by omega) (by simp; omega) (w2.heap.size + 1) (by simp) ?_; intro g cap w3 ho3 hg3 hat hlt; obtain ⟨y0, y1, y2, y3, HY⟩ := addG_facts (x := (a, b)) HP.out.1 HP.out.2.1 HP.out.2.2.1 HO.out HP.out.2.2.2.1 HP.out.2.2.2.2.1 HP.out.2.2.2.2.2 ho3 hg3; have HCH : Hid (∀ top, (∀ k, Value.ownBlock (.slice ia l.length ic) = some k → k < top) → Chg w2 w3 base top) := fun top hk => chg_append hg3 (fun k e => ⟨(HO.out.lt k e).1, hk k e⟩); clear ho3 hg3 hat hlt))
  all_goals
    go_wp2
    obtain ⟨w5, hrun, q0, q1, q2, q3, m0, m1, m2, m3, HZ⟩ := addGF_end hl ha hb HN.out HP.out.2.1 HP.out.2.2.1 HY.out
    clear y0 y1 y2 y3
    go_region_held3 (fun w' => w'.cell? ⟨p, 0, none⟩ = some (.slice (some ⟨g, 0, none⟩) (l.length + 1) cap) ∧ w'.cell? ⟨p, 1, none⟩ = some (.map (some B)) ∧ w'.cell? ⟨w.heap.size, 0, none⟩ = some (.int .i64 a) ∧ w'.cell? ⟨w.heap.size, 1, none⟩ = some (.int .i64 b)) (go_keep)
      (first | (go_at_call 46; refine (countG_any p (l.length + 1) cap (some ⟨g, 0, none⟩) _ ?_).mono ?_; (simp [*]); rintro e w' ⟨rfl, rfl⟩))
    go_wp2
    go_ret
    exact ⟨rfl, HZ.out.1, (HB2.out.mono hbw).trans HZ.out.2.1, fun top htop => by
      obtain ⟨t1, t2, t3⟩ := htop _ _ HP0.out
      exact ((Chg.of_below HB2.out base top).trans (HCH.out top t3)).trans (HZ.out.2.2 top t1 t2)⟩

end Go.Proofs.YtajkihmefpbofaaGreatDoor

namespace Go.Proofs.YtajkihmefpbofaaGreatDoor
open Go.RowKit Go.Maps Go.WideMaps

/-- The program's book in block K, the signature behind it, the two tables, and the result under way. -/
structure Bs (w V : World) (K p q top : Nat) (ss : List ByteArray) (gs : List (Int × Int)) (a0 a1 : Value) (a b : Int) : Prop where
  r : Box4 w V a0 a1 27
  k : V.heap[K]? = some (.cells #[.pointer (some ⟨p, 0, none⟩), .pointer (some ⟨q, 0, none⟩)] 55 (0, 0))
  x : V.heap[K + 1]? = some (.cells #[.int .i64 a, .int .i64 b] 83 (0, 0))
  s : TwS V (w.heap.size + 2) p ss
  st : TopS V p top
  g : TwG V top q gs
  gt : TopG V q K
  tl : w.heap.size + 2 ≤ top ∧ top ≤ K

section
variable {w V V' w2 : World} {K p q top : Nat} {ss : List ByteArray} {gs gs' : List (Int × Int)} {a0 a1 : Value} {a b : Int} {n m : Nat}
theorem Bs.step (h : Bs w V K p q top ss gs a0 a1 a b) (hb : Below V.heap.size V V') : Bs w V' K p q top ss gs a0 a1 a b := by
  have hpl : p < V.heap.size := by obtain ⟨iv, B, hp, _⟩ := h.s; exact lt_of_block hp
  have hql : q < V.heap.size := by obtain ⟨iv, B, hp, _⟩ := h.g; exact lt_of_block hp
  exact ⟨(h.r.step hb).out, (keepb h.k hb).out, (keepb h.x hb).out, h.s.below hb, h.st.of_block (hb.block p hpl), h.g.below hb, h.gt.of_block (hb.block q hql), h.tl⟩
theorem Bs.start (hB : Box4 w w2 a0 a1 27) (hT : TwS w2 (w.heap.size + 2) p ss ∧ TopS w2 p top ∧ TwG w2 top q gs ∧ w.heap.size + 2 ≤ top) :
    Hid (Bs w ((w2.alloc (.cells #[.pointer (some ⟨p, 0, none⟩), .pointer (some ⟨q, 0, none⟩)] 55)).alloc (.cells #[.int .i64 a, .int .i64 b] 83)) w2.heap.size p q top ss gs a0 a1 a b) := by
  have hpl : p < w2.heap.size := by obtain ⟨iv, B, hp, _⟩ := hT.1; exact lt_of_block hp
  have hql : q < w2.heap.size := by obtain ⟨iv, B, hp, _⟩ := hT.2.2.1; exact lt_of_block hp
  have htq : top ≤ q := by obtain ⟨iv, B, hp, hb, _⟩ := hT.2.2.1; exact hb
  have hb : Below w2.heap.size w2 ((w2.alloc (.cells #[.pointer (some ⟨p, 0, none⟩), .pointer (some ⟨q, 0, none⟩)] 55)).alloc (.cells #[.int .i64 a, .int .i64 b] 83)) := below_box2 _ _
  exact ⟨(hB.step hb).out, block_at2, heap_at _ _ _ (by simp), hT.1.below hb, hT.2.1.of_block (hb.block p hpl), hT.2.2.1.below hb, hT.2.2.1.top.of_block (hb.block q hql), hT.2.2.2, by omega⟩
theorem Bs.bk (h : Bs w V K p q top ss gs a0 a1 a b) : Hid (Bk w V K p q ss gs a0 a1) := ⟨h.r, h.k, h.s, h.g.mono h.tl.1⟩
theorem Bs.add (h : Bs w V K p q top ss gs a0 a1 a b) (ht : TwG V' top q gs') (hc : Chg V V' top K) : Hid (Bk w V' K p q ss gs' a0 a1) := by
  have := h.tl
  exact ⟨⟨hc.keep h.r.1 (.inl (by omega)), h.r.2.1.trans (hc.below (by omega) h.r.2.1.size), hc.keep h.r.2.2 (.inl (by omega))⟩, hc.keep h.k (.inr (Nat.le_refl _)), h.s.chgT h.st hc, ht.mono h.tl.1⟩
theorem Bk.tailQ (h : Bk w V K p q ss gs a0 a1) (hn : ss.length = n) (hm : gs.length = m) :
    ∃ ia ic ja jc, Hid (Calls Tryz.prog 48 #[.agg #[.pointer (some ⟨p, 0, none⟩), .pointer (some ⟨q, 0, none⟩)]] V fun e w' => e = .returned (.agg #[.slice ia n ic, .slice ja m jc]) ∧ Below V.heap.size V w') ∧
      Hid (V.ownsRow (w.heap.size + 2) 9 1 (.slice ia n ic) n (ss.map Value.string) ∧ V.ownsRow (w.heap.size + 2) 83 2 (.slice ja m jc) m (gcells gs)) := by
  obtain ⟨ia, ic, hi, hip, HI⟩ := h.s.rows hn
  obtain ⟨ja, jc, hj, hjp, HJ⟩ := h.g.rows hm
  exact ⟨ia, ic, ja, jc, bookL_any p q n m ic jc ia ja V hip hjp hi hj, HI.out, HJ.out⟩
end

theorem memB_num {gs : List (Int × Int)} {x : Int × Int} : memB gs x = (num gs x != 0) := rfl

set_option maxRecDepth 20000 in
set_option maxHeartbeats 2000000 in
theorem iSignId_any (n m tc gc : Nat) (ta ga : Option Addr) (ss : List ByteArray) (gs : List (Int × Int)) (a b : Int) (w : World) (ha : (Lit.int .i64 a).wf = true) (hb : (Lit.int .i64 b).wf = true) (hf : Fine ss gs) (h : LedAt w ta n ga m ss gs) :
    Calls Tryz.prog 15 #[.agg #[.slice ta n tc, .slice ga m gc], .int .i64 a, .int .i64 b] w fun e w' => OutL w w' e (signR ss gs a b) := by
  obtain ⟨c, hc⟩ : ∃ c, c = flt ss gs := ⟨_, rfl⟩
  have HA : Hid ((Lit.int .i64 a).wf = true) := ha
  have HBW : Hid ((Lit.int .i64 b).wf = true) := hb
  have HN : Hid (ss.length = n) := h.s.1
  have HM : Hid (gs.length = m) := h.g.1
  clear ha hb
  by_cases hcz : c = 0
  · subst hcz
    have hrd := read4_ok (tc := tc) (gc := gc) hf h hc
    have hlen := flt_le hc
    rw [HN.out, HM.out] at hlen
    have h120 := hlen.2
    clear hlen h hf
    obtain ⟨ka, hka⟩ : ∃ ka, ka = inB a 1 999 := ⟨_, rfl⟩
    obtain ⟨kb, hkb⟩ : ∃ kb, kb = inB b 1 n := ⟨_, rfl⟩
    have hkey : ∀ v, Calls Tryz.prog 43 #[.int .i64 a] v fun e w' => e = .returned (.bool ka) ∧ w' = v := fun v => by rw [hka]; exact isKey_any a v
    have hhas : ∀ p v ia ic, v.cell? ⟨p, 0, none⟩ = some (.slice ia n ic) → Calls Tryz.prog 44 #[.pointer (some ⟨p, 0, none⟩), .int .i64 b] v fun e w' => e = .returned (.bool kb) ∧ w' = v := fun p v ia ic hv => by rw [hkb]; exact hasNumber_any p n ic ia b v hv
    have HHAS : Hid (∀ p v ia ic, v.cell? ⟨p, 0, none⟩ = some (.slice ia n ic) → Calls Tryz.prog 44 #[.pointer (some ⟨p, 0, none⟩), .int .i64 b] v fun e w' => e = .returned (.bool kb) ∧ w' = v) := hhas
    clear hhas
    by_cases hs : ka = false ∨ kb = false
    · have hr := signR_range (a := a) (b := b) HN.out hc (by rw [← hka, ← hkb]; exact hs)
      rw [hr]
      clear hc hr hka hkb
      have hs2 : ka = false ∨ ka = true ∧ kb = false := by rcases hs with h | h <;> cases ka <;> simp_all
      clear hs
      rcases hs2 with rfl | ⟨rfl, rfl⟩
      all_goals
        go_enter Tryz.func15, Tryz.ntmps15
        go_wp2_with (first
          | (go_at_call 21; refine hrd.mono ?_; rintro e w2 ⟨p, q, top, rfl, HB, HT⟩; obtain ⟨Ky0, Ky1, Ky2, Ky3, Ky4, Ky5, Ky6, Ky7⟩ := cells4 (HB.out.step (below_box (.cells #[.pointer (some ⟨p, 0, none⟩), .pointer (some ⟨q, 0, none⟩)] 55))).out.1; obtain ⟨ia, ic, hI, HSA⟩ := tw_items (o := .cells #[.pointer (some ⟨p, 0, none⟩), .pointer (some ⟨q, 0, none⟩)] 55) HN.out HT.out.1; have hhn := HHAS.out _ _ _ _ hI; clear hI)
          | (go_at_call 43; refine (hkey _).mono ?_; rintro e w' ⟨rfl, hw⟩; subst hw)
          | (go_at_call 44; refine hhn.mono ?_; rintro e w' ⟨rfl, hw⟩; subst hw))
        obtain ⟨s0, s1, s2, s3⟩ := four_set (HB.out.step (below_box (.cells #[.pointer (some ⟨p, 0, none⟩), .pointer (some ⟨q, 0, none⟩)] 55))).out.1 (.int .i64 3) (.int .i64 0) (.slice none 0 0) (.slice none 0 0)
        exact bodyPost_ret (v := .agg #[.int .i64 3, .int .i64 0, .slice none 0 0, .slice none 0 0]) (by simp [results, Tryz.results15, go_sem, s0, s1, s2, s3]) rfl (OutL.empty (below_res4 (HB.out.step (below_box _)).out.2.1 _ _ _ _))
    · obtain rfl : ka = true := by cases ka <;> simp_all
      obtain rfl : kb = true := by cases kb <;> simp_all
      obtain ⟨k, hk⟩ : ∃ k, k = num gs (a, b) := ⟨_, rfl⟩
      have HK : Hid (num gs (a, b) = k) := hk.symm
      by_cases hk0 : k = 0
      · have hmem : false = memB gs (a, b) := by rw [memB_num, ← hk, hk0]; rfl
        have HK1 : Hid (num gs (a, b) = 0) := by rw [← hk]; exact hk0
        subst hk0
        by_cases hful : 120 ≤ m
        · rw [signR_full HN.out HM.out hc hka.symm hkb.symm hmem hful]
          clear hc hk hmem hka hkb hs
          go_enter Tryz.func15, Tryz.ntmps15
          go_wp2_with (first
            | (go_at_call 21; refine hrd.mono ?_; rintro e w2 ⟨p, q, top, rfl, HB, HT⟩; obtain ⟨ia, ic, hI, HSA⟩ := tw_items (o := .cells #[.pointer (some ⟨p, 0, none⟩), .pointer (some ⟨q, 0, none⟩)] 55) HN.out HT.out.1; have hhn := HHAS.out _ _ _ _ hI; clear hI; have HS := Bs.start (a := a) (b := b) HB.out HT.out; obtain ⟨t0, t1⟩ := cells2 HS.out.k; obtain ⟨x0, x1⟩ := cells2 HS.out.x; have hnb := numG_tw HA.out HBW.out HS.out.g; rw [HK.out] at hnb)
            | (go_at_call 43; refine (hkey _).mono ?_; rintro e w' ⟨rfl, hw⟩; subst hw)
            | (go_at_call 44; refine hhn.mono ?_; rintro e w' ⟨rfl, hw⟩; subst hw)
            | (go_at_call 45; refine hnb.mono ?_; rintro e w3 ⟨rfl, hb3⟩; have HS3 : Hid (Bs w w3 w2.heap.size p q top ss gs (.slice ta n tc) (.slice ga m gc) a b) := HS.out.step hb3; clear t0 t1 x0 x1 hb3; obtain ⟨t0, t1⟩ := cells2 HS3.out.k; obtain ⟨x0, x1⟩ := cells2 HS3.out.x; obtain ⟨q0, q1, q2, q3, q4, q5, q6, q7⟩ := cells4 HS3.out.r.1; obtain ⟨ja, jc, hJ, _, _⟩ := HS3.out.g.rows HM.out; have hct := countG_any q m jc ja _ hJ; clear hJ)
            | (go_at_call 46; refine hct.mono ?_; rintro e w' ⟨rfl, hw⟩; have hw2 := hw.symm; subst hw2))
          obtain ⟨s0, s1, s2, s3⟩ := four_set HS3.out.r.1 (.int .i64 2) (.int .i64 0) (.slice none 0 0) (.slice none 0 0)
          exact bodyPost_ret (v := .agg #[.int .i64 2, .int .i64 0, .slice none 0 0, .slice none 0 0]) (by simp [results, Tryz.results15, go_sem, s0, s1, s2, s3]) rfl (OutL.empty (below_res4 HS3.out.r.2.1 _ _ _ _))
        · rw [signR_new HN.out HM.out hc hka.symm hkb.symm hmem hful]
          have hful' : (m : Int) < 120 := by omega
          have HSL : Hid (gs.length ≤ 200) := by show _ ≤ _; rw [HM.out]; omega
          have HE1 : Hid ((gs ++ [(a, b)]).length = m + 1) := by show _ = _; simp [HM.out]
          clear hc hk hmem hka hkb hs hful
          go_enter Tryz.func15, Tryz.ntmps15
          go_wp2_with (first
            | (go_at_call 21; refine hrd.mono ?_; rintro e w2 ⟨p, q, top, rfl, HB, HT⟩; obtain ⟨ia, ic, hI, HSA⟩ := tw_items (o := .cells #[.pointer (some ⟨p, 0, none⟩), .pointer (some ⟨q, 0, none⟩)] 55) HN.out HT.out.1; have hhn := HHAS.out _ _ _ _ hI; clear hI; have HS := Bs.start (a := a) (b := b) HB.out HT.out; obtain ⟨t0, t1⟩ := cells2 HS.out.k; obtain ⟨x0, x1⟩ := cells2 HS.out.x; have hnb := numG_tw HA.out HBW.out HS.out.g; rw [HK.out] at hnb)
            | (go_at_call 43; refine (hkey _).mono ?_; rintro e w' ⟨rfl, hw⟩; subst hw)
            | (go_at_call 44; refine hhn.mono ?_; rintro e w' ⟨rfl, hw⟩; subst hw)
            | (go_at_call 45; refine hnb.mono ?_; rintro e w3 ⟨rfl, hb3⟩; have HS3 : Hid (Bs w w3 w2.heap.size p q top ss gs (.slice ta n tc) (.slice ga m gc) a b) := HS.out.step hb3; clear t0 t1 x0 x1 hb3; obtain ⟨t0, t1⟩ := cells2 HS3.out.k; obtain ⟨x0, x1⟩ := cells2 HS3.out.x; obtain ⟨ja, jc, hJ, _, _⟩ := HS3.out.g.rows HM.out; have hct := countG_any q m jc ja _ hJ; clear hJ)
            | (go_at_call 46; refine hct.mono ?_; rintro e w' ⟨rfl, hw⟩; have hw2 := hw.symm; subst hw2)
            | (go_at_call 47; refine (addG_frame q top gs a b _ HSL.out HA.out HBW.out HK1.out (by have := HS3.out.tl; have := lt_of_block HS3.out.k; omega) HS3.out.g).mono ?_; rintro e w4 ⟨rfl, htw4, hb4, hch4⟩; have HBK : Hid (Bk w w4 w2.heap.size p q ss (gs ++ [(a, b)]) (.slice ta n tc) (.slice ga m gc)) := HS3.out.add htw4 (hch4 _ HS3.out.gt); clear htw4 hb4 hch4 t0 t1 x0 x1; obtain ⟨t0, t1⟩ := cells2 HBK.out.k; obtain ⟨ia2, ic2, ja2, jc2, HLD, HRW⟩ := HBK.out.tailQ HN.out HE1.out)
            | (go_at_call 48; refine HLD.out.mono ?_; rintro e w5 ⟨rfl, hb5⟩; obtain ⟨J0, J1, J2, J3, J4, J5, J6, J7⟩ := cells4 (HBK.out.r.step hb5).out.1))
          obtain ⟨s0, s1, s2, s3⟩ := four_set (HBK.out.r.step hb5).out.1 (.int .i64 0) (.int .i64 b) (.slice ia2 n ic2) (.slice ja2 (m + 1) jc2)
          exact bodyPost_ret (v := .agg #[.int .i64 0, .int .i64 b, .slice ia2 n ic2, .slice ja2 (m + 1) jc2]) (by simp [results, Tryz.results15, go_sem, s0, s1, s2, s3]) rfl (HBK.out.out HN.out HE1.out hb5 HRW.out b _ _ _ _)
      · have hmem : true = memB gs (a, b) := by rw [memB_num, ← hk]; simp [hk0]
        rw [signR_old HN.out hc hka.symm hkb.symm hmem]
        have hki : (k : Int) ≠ 0 := by omega
        have HK0 : Hid (¬ num gs (a, b) = 0) := by rw [← hk]; exact hk0
        clear hc hk hk0 hmem hka hkb hs
        go_enter Tryz.func15, Tryz.ntmps15
        go_wp2_with (first
          | (go_at_call 21; refine hrd.mono ?_; rintro e w2 ⟨p, q, top, rfl, HB, HT⟩; obtain ⟨ia, ic, hI, HSA⟩ := tw_items (o := .cells #[.pointer (some ⟨p, 0, none⟩), .pointer (some ⟨q, 0, none⟩)] 55) HN.out HT.out.1; have hhn := HHAS.out _ _ _ _ hI; clear hI; have HS := Bs.start (a := a) (b := b) HB.out HT.out; obtain ⟨t0, t1⟩ := cells2 HS.out.k; obtain ⟨x0, x1⟩ := cells2 HS.out.x; have hnb := numG_tw HA.out HBW.out HS.out.g; rw [HK.out] at hnb)
          | (go_at_call 43; refine (hkey _).mono ?_; rintro e w' ⟨rfl, hw⟩; subst hw)
          | (go_at_call 44; refine hhn.mono ?_; rintro e w' ⟨rfl, hw⟩; subst hw)
          | (go_at_call 45; refine hnb.mono ?_; rintro e w3 ⟨rfl, hb3⟩; have HS3 : Hid (Bs w w3 w2.heap.size p q top ss gs (.slice ta n tc) (.slice ga m gc) a b) := HS.out.step hb3; clear t0 t1 x0 x1 hb3; obtain ⟨t0, t1⟩ := cells2 HS3.out.k; obtain ⟨x0, x1⟩ := cells2 HS3.out.x)
          | (go_at_call 47; refine (addG_old q top gs a b _ HA.out HBW.out HK0.out HS3.out.g).mono ?_; rintro e w4 ⟨rfl, hb4⟩; have HBK : Hid (Bk w w4 w2.heap.size p q ss gs (.slice ta n tc) (.slice ga m gc)) := (HS3.out.step hb4).bk.out; clear hb4 t0 t1 x0 x1; obtain ⟨t0, t1⟩ := cells2 HBK.out.k; obtain ⟨ia2, ic2, ja2, jc2, HLD, HRW⟩ := HBK.out.tailQ HN.out HM.out)
          | (go_at_call 48; refine HLD.out.mono ?_; rintro e w5 ⟨rfl, hb5⟩; obtain ⟨J0, J1, J2, J3, J4, J5, J6, J7⟩ := cells4 (HBK.out.r.step hb5).out.1))
        obtain ⟨s0, s1, s2, s3⟩ := four_set (HBK.out.r.step hb5).out.1 (.int .i64 0) (.int .i64 b) (.slice ia2 n ic2) (.slice ja2 m jc2)
        exact bodyPost_ret (v := .agg #[.int .i64 0, .int .i64 b, .slice ia2 n ic2, .slice ja2 m jc2]) (by simp [results, Tryz.results15, go_sem, s0, s1, s2, s3]) rfl (HBK.out.out HN.out HM.out hb5 HRW.out b _ _ _ _)
  · have hrd := read4_bad (tc := tc) (gc := gc) hf h hc hcz
    rw [signR_bad hc hcz]
    clear hc h hf
    go_enter Tryz.func15, Tryz.ntmps15
    go_wp2_with (first
      | (go_at_call 21; refine hrd.mono ?_; rintro e w2 ⟨rfl, HB⟩; obtain ⟨Ky0, Ky1, Ky2, Ky3, Ky4, Ky5, Ky6, Ky7⟩ := cells4 (HB.out.step (below_box (.cells #[.pointer none, .pointer none] 55))).out.1))
    obtain ⟨s0, s1, s2, s3⟩ := four_set (HB.out.step (below_box (.cells #[.pointer none, .pointer none] 55))).out.1 (.int .i64 c) (.int .i64 0) (.slice none 0 0) (.slice none 0 0)
    exact bodyPost_ret (v := .agg #[.int .i64 c, .int .i64 0, .slice none 0 0, .slice none 0 0]) (by simp [results, Tryz.results15, go_sem, s0, s1, s2, s3]) rfl (OutL.empty (below_res4 (HB.out.step (below_box _)).out.2.1 _ _ _ _))

end Go.Proofs.YtajkihmefpbofaaGreatDoor
