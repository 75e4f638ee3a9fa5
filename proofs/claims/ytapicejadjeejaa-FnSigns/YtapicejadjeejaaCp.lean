/- The specification's copy of a ledger; the program's tables handed out as a ledger. The specification's copy of a ledger: two rows of new memory. What a result with a ledger is, and what the specification's NoteText answers. -/
import Derived.Test.YtapicejadjeejaaMk
import Derived.Test.YtapicejadjeejaaTextOf
import Derived.Deep.RegionLaw
namespace Go.Proofs.Ytapicejadjeejaa
open Go.RowKit Go.Maps Go.WideMaps
attribute [local go_sem ↓] Go.wp_at_zero Go.wp_at_succ

/-- append to a slice of the call's own that is not nil, as one step of a region that draws its order: the new slice written out. -/
theorem step_append_some {P : Program} (w : World) {ops : Array Oper} {o : Oper} {a : Act} {K : Act → World → Prop} {Q : Exit → Act → World → Prop} {E : Prop} (hgd : o.guard = none) (s x : Operand) (t : TypeId)
    (ho : o.op = .call { callee := .builtin .append, args := #[s, x], argTypes := #[t, t] })
    (base : Nat) (e : TypeId) (i : TypeInfo) (z : Value) (size bytes : Nat) (ht : P.underlying t = some (.slice e)) (hi : P.info? e = some i) (hz : i.zero = some z)
    (hsize : i.size = size) (hby : i.bytes = bytes) (hzs : z.cells.size = size) (hsz : 0 < size)
    (g0 c0 : Nat) (n : Nat) (xs : List Value) (hs : a.eval s = .slice (some ⟨g0, 0, none⟩) n c0) (hown : w.ownsRow base e size (.slice (some ⟨g0, 0, none⟩) n c0) n xs)
    (ad : Addr) (m c : Nat) (news : List Value) (hx : a.eval x = .slice (some ad) m c) (hl : news.length = m * size) (hnews : ∀ j u, news[j]? = some u → w.cell? (ad.add j) = some u) (h1 : ∀ u ∈ news, u.oneCell' = true)
    (h63 : n + m ≤ maxLen) (hbytes : (n + m) * bytes ≤ 140737488355328) (hbase : base ≤ w.heap.size)
    (h : ∀ g cap w', w'.ownsRow base e size (.slice (some ⟨g, 0, none⟩) (n + m) cap) (n + m) (xs ++ news) → w.grownBy w' (some g0) → K (a.put o.dst (.slice (some ⟨g, 0, none⟩) (n + m) cap)) w') :
    if Region.wanted o (yielded ops a.tmps) = true then Oper.wp P o a w K Q else E := by
  have hw : Region.wanted o (yielded ops a.tmps) = true := by simp [Region.wanted, hgd]
  rw [if_pos hw]
  refine wp_append_own w s x t ho base e i z size bytes ht hi hz hsize hby hzs hsz _ n xs hs hown ad m c news hx hl hnews h1 h63 hbytes hbase fun v' w' r1 r2 r3 => ?_
  rcases id r1.2 with ⟨e1, _⟩ | ⟨g, cap, cur, e1, _⟩
  · have := r3.1 e1; simp at this
  · subst e1
    exact h g cap w' r1 r2

/-- An empty row that has just been laid is owned. -/
theorem own_empty {W : World} {base X : Nat} {t : TypeId} {size : Nat} (h : W.heap[X]? = some (.cells #[] t (0, 0))) (hb : base ≤ X) : W.ownsRow base t size (.slice (some ⟨X, 0, none⟩) 0 0) 0 [] :=
  ⟨by simp, .inr ⟨X, 0, #[], rfl, hb, h, Nat.le_refl _, by unfold maxLen; omega, by simp, by simp⟩⟩

theorem keep_row {W W' : World} {X base n : Nat} {t e : TypeId} {size : Nat} {v : Value} {xs : List Value} {cur : Array Value} (hg : W.grownBy W' (some X)) (hX : W.heap[X]? = some (.cells cur t (0, 0))) (ho : W.ownsRow base e size v n xs) (hne : t ≠ e) : W'.ownsRow base e size v n xs := by
  refine ho.kept hg ?_
  rcases id ho.2 with ⟨rfl, _⟩ | ⟨g, c, cur', rfl, _, hh, _⟩
  · exact .inl rfl
  · right
    simp only [Value.ownBlock, ne_eq, Option.some.injEq]
    rintro rfl
    rw [hX] at hh
    simp at hh
    exact hne hh.2

theorem news_texts {w W : World} {b0 o0 n : Nat} {ss : List ByteArray} (h : SAt w (some ⟨b0, o0, none⟩) n ss) (hb : Below w.heap.size w W) : ∀ j u, (ss.map Value.string)[j]? = some u → W.cell? ((⟨b0, o0, none⟩ : Addr).add j) = some u := by
  intro j u hj
  have hjl : j < ss.length := by have := (List.getElem?_eq_some_iff.1 hj).1; simpa using this
  have hh := (h.below hb (Nat.le_refl _))
  rcases hh.2 with h0 | ⟨b, off, e, _, hc⟩
  · have := h.1; omega
  · simp at e
    obtain ⟨rfl, rfl⟩ := e
    have h1 : (⟨b0, o0, none⟩ : Addr).add j = ⟨b0, o0 + j, none⟩ := by
      simp only [Addr.add]
      split
      · simp_all
      · rfl
    rw [h1, hc j (by have := h.1; omega)]
    simp [hjl] at hj
    rw [← hj]
    simp [List.getD, hjl]

theorem news_signs {w W : World} {b0 o0 n : Nat} {gs : List (Int × Int)} (h : GAt w (some ⟨b0, o0, none⟩) n gs) (hb : Below w.heap.size w W) : ∀ j u, (gcells gs)[j]? = some u → W.cell? ((⟨b0, o0, none⟩ : Addr).add j) = some u := by
  intro j u hj
  have hjl : j < gs.length * 2 := by have := (List.getElem?_eq_some_iff.1 hj).1; rwa [gcells_length] at this
  have hh := (h.below hb (Nat.le_refl _))
  rcases hh.2 with h0 | ⟨b, off, e, _, hc⟩
  · have := h.1; omega
  · simp at e
    obtain ⟨rfl, rfl⟩ := e
    have h1 : (⟨b0, o0, none⟩ : Addr).add j = ⟨b0, o0 + j, none⟩ := by
      simp only [Addr.add]
      split
      · simp_all
      · rfl
    have hd := hc (j / 2) (by have := h.1; omega)
    have ha := gcells_at gs (j / 2) (by omega)
    rw [h1]
    rcases Nat.mod_two_eq_zero_or_one j with e | e
    · have ej : j = j / 2 * 2 := by omega
      rw [ej] at hj ⊢
      rw [ha.1] at hj
      rw [hd.1, hj]
    · have ej : j = j / 2 * 2 + 1 := by omega
      rw [ej] at hj ⊢
      rw [ha.2] at hj
      rw [← Nat.add_assoc, hd.2, hj]

theorem one_texts {ss : List ByteArray} : ∀ u ∈ ss.map Value.string, u.oneCell' = true := by
  intro u hu
  simp at hu
  obtain ⟨s, _, rfl⟩ := hu
  rfl
theorem one_signs {gs : List (Int × Int)} : ∀ u ∈ gcells gs, u.oneCell' = true := by
  intro u hu
  simp [gcells] at hu
  obtain ⟨a, b, _, rfl | rfl⟩ := hu <;> rfl

end Go.Proofs.Ytapicejadjeejaa

namespace Go.Proofs.Ytapicejadjeejaa
open Go.RowKit Go.Maps Go.WideMaps
attribute [local go_sem ↓] Go.wp_at_zero Go.wp_at_succ

theorem heap_at (w : World) (o : Obj) (n : Nat) (h : n = w.heap.size) : (w.alloc o).heap[n]? = some o := by rw [h]; exact heap_alloc_new w o
theorem heap_at2 (w : World) (o o' : Obj) (n : Nat) (h : n = w.heap.size) : ((w.alloc o).alloc o').heap[n]? = some o := by rw [h]; exact block_at2

theorem copy_below {w W : World} {o o' : Obj} (hb : Below (w.heap.size + 1 + 1) ((w.alloc o).alloc o') W) : Below w.heap.size w W := (below_box2 _ _).trans (hb.mono (by omega))
theorem copy_cells {w W : World} {a0 a1 c0 c1 : Value} {t t' : TypeId} (hb : Below (w.heap.size + 1 + 1) ((w.alloc (.cells #[a0, a1] t)).alloc (.cells #[c0, c1] t')) W) : W.cell? ⟨w.heap.size, 0, none⟩ = some a0 ∧ W.cell? ⟨w.heap.size, 1, none⟩ = some a1 ∧ w.heap.size + 1 + 1 ≤ W.heap.size ∧
    W.cell? ⟨w.heap.size + 1, 0, none⟩ = some c0 ∧ W.cell? ⟨w.heap.size + 1, 1, none⟩ = some c1 ∧ W.frozen? ⟨w.heap.size + 1, 0, none⟩ = false ∧ W.frozen? ⟨w.heap.size + 1, 1, none⟩ = false ∧ Hid (W.heap[w.heap.size + 1]? = some (.cells #[c0, c1] t' (0, 0))) := by
  have hh := (hb.block w.heap.size (by omega)).trans (block_at2 (w := w) (o := .cells #[a0, a1] t) (o' := .cells #[c0, c1] t'))
  have h1 : ((w.alloc (.cells #[a0, a1] t)).alloc (.cells #[c0, c1] t')).heap[w.heap.size + 1]? = some (.cells #[c0, c1] t' (0, 0)) := heap_at _ _ _ (by simp)
  have hh1 := (hb.block (w.heap.size + 1) (by omega)).trans h1
  have hs := hb.size
  simp only [World.size_alloc] at hs
  exact ⟨by unfold World.cell?; rw [hh]; rfl, by unfold World.cell?; rw [hh]; rfl, hs, by unfold World.cell?; rw [hh1]; rfl, by unfold World.cell?; rw [hh1]; rfl, Joins.unfrozen_of_block hh1 0, Joins.unfrozen_of_block hh1 1, hh1⟩

end Go.Proofs.Ytapicejadjeejaa

namespace Go.Proofs.Ytapicejadjeejaa
open Go.RowKit Go.Maps Go.WideMaps

structure LRes where
  c : Int
  i : Int
  s : List ByteArray
  g : List (Int × Int)

def noteR (ss : List ByteArray) (gs : List (Int × Int)) (x : ByteArray) : LRes :=
  if flt ss gs ≠ 0 then ⟨flt ss gs, 0, [], []⟩ else if x.size < 1 ∨ 300 < x.size then ⟨2, 0, [], []⟩ else if num ss x ≠ 0 then ⟨0, num ss x, ss, gs⟩ else if 60 ≤ ss.length then ⟨2, 0, [], []⟩ else ⟨0, ss.length + 1, ss ++ [x], gs⟩

section
variable {ss : List ByteArray} {gs : List (Int × Int)} {x : ByteArray} {n : Nat}
theorem noteR_bad {c : Int} (h : c = flt ss gs) (h0 : c ≠ 0) : noteR ss gs x = ⟨c, 0, [], []⟩ := by unfold noteR; rw [← h, if_pos h0]
theorem noteR_size (h : 0 = flt ss gs) (h1 : x.size < 1 ∨ 300 < x.size) : noteR ss gs x = ⟨2, 0, [], []⟩ := by unfold noteR; rw [← h, if_neg (by simp), if_pos h1]
theorem noteR_old (h : 0 = flt ss gs) (h1 : ¬ (x.size < 1 ∨ 300 < x.size)) {k : Nat} (hk : k = num ss x) (hk0 : k ≠ 0) : noteR ss gs x = ⟨0, k, ss, gs⟩ := by unfold noteR; rw [← h, if_neg (by simp), if_neg h1, ← hk, if_pos hk0]
theorem noteR_full (hn : ss.length = n) (h : 0 = flt ss gs) (h1 : ¬ (x.size < 1 ∨ 300 < x.size)) (hk : num ss x = 0) (h60 : 60 ≤ n) : noteR ss gs x = ⟨2, 0, [], []⟩ := by unfold noteR; rw [← h, if_neg (by simp), if_neg h1, if_neg (by simp [hk]), hn, if_pos h60]
theorem noteR_new (hn : ss.length = n) (h : 0 = flt ss gs) (h1 : ¬ (x.size < 1 ∨ 300 < x.size)) (hk : num ss x = 0) (h60 : ¬ 60 ≤ n) : noteR ss gs x = ⟨0, (n : Int) + 1, ss ++ [x], gs⟩ := by unfold noteR; rw [← h, if_neg (by simp), if_neg h1, if_neg (by simp [hk]), hn, if_neg h60]
end

/-- What a result with a ledger is: its two lists lie in new memory. -/
def OutL (w w' : World) (e : Ending) (r : LRes) : Prop :=
  Below w.heap.size w w' ∧ ∃ a0 c0 a1 c1, e = .returned (.agg #[.int .i64 r.c, .int .i64 r.i, .slice a0 r.s.length c0, .slice a1 r.g.length c1]) ∧
    w'.ownsRow w.heap.size 9 1 (.slice a0 r.s.length c0) r.s.length (r.s.map Value.string) ∧ w'.ownsRow w.heap.size 53 2 (.slice a1 r.g.length c1) r.g.length (gcells r.g)

theorem OutL.empty {w w' : World} {c : Int} (h : Below w.heap.size w w') : OutL w w' (.returned (.agg #[.int .i64 c, .int .i64 0, .slice none 0 0, .slice none 0 0])) ⟨c, 0, [], []⟩ := ⟨h, none, 0, none, 0, rfl, World.ownsRow_nil _ _ _ _, World.ownsRow_nil _ _ _ _⟩

/-- Four cells of one block. -/
theorem cells4 {v : World} {b : Nat} {a0 a1 a2 a3 : Value} {t : TypeId} (h : v.heap[b]? = some (.cells #[a0, a1, a2, a3] t (0, 0))) :
    v.cell? ⟨b, 0, none⟩ = some a0 ∧ v.cell? ⟨b, 1, none⟩ = some a1 ∧ v.cell? ⟨b, 2, none⟩ = some a2 ∧ v.cell? ⟨b, 3, none⟩ = some a3 ∧ v.frozen? ⟨b, 0, none⟩ = false ∧ v.frozen? ⟨b, 1, none⟩ = false ∧ v.frozen? ⟨b, 2, none⟩ = false ∧ v.frozen? ⟨b, 3, none⟩ = false :=
  ⟨by unfold World.cell?; rw [h]; rfl, by unfold World.cell?; rw [h]; rfl, by unfold World.cell?; rw [h]; rfl, by unfold World.cell?; rw [h]; rfl, Joins.unfrozen_of_block h 0, Joins.unfrozen_of_block h 1, Joins.unfrozen_of_block h 2, Joins.unfrozen_of_block h 3⟩

theorem four_set {w : World} {b : Nat} {c0 c1 c2 c3 : Value} {t : TypeId} (h : w.heap[b]? = some (.cells #[c0, c1, c2, c3] t (0, 0))) (v0 v1 v2 v3 : Value) :
    (w.setCell ⟨b, 0, none⟩ v0).cell? ⟨b, 0, none⟩ = some v0 ∧ ((w.setCell ⟨b, 0, none⟩ v0).setCell ⟨b, 1, none⟩ v1).cell? ⟨b, 1, none⟩ = some v1 ∧ (((w.setCell ⟨b, 0, none⟩ v0).setCell ⟨b, 1, none⟩ v1).setCell ⟨b, 2, none⟩ v2).cell? ⟨b, 2, none⟩ = some v2 ∧
      ((((w.setCell ⟨b, 0, none⟩ v0).setCell ⟨b, 1, none⟩ v1).setCell ⟨b, 2, none⟩ v2).setCell ⟨b, 3, none⟩ v3).cell? ⟨b, 3, none⟩ = some v3 := by
  have h1 : (w.setCell ⟨b, 0, none⟩ v0).heap[b]? = some (.cells #[v0, c1, c2, c3] t (0, 0)) := by
    have := Joins.block_setCell (i := 0) h v0
    simpa using this
  have h2 : ((w.setCell ⟨b, 0, none⟩ v0).setCell ⟨b, 1, none⟩ v1).heap[b]? = some (.cells #[v0, v1, c2, c3] t (0, 0)) := by
    have := Joins.block_setCell (i := 1) h1 v1
    simpa using this
  have h3 : (((w.setCell ⟨b, 0, none⟩ v0).setCell ⟨b, 1, none⟩ v1).setCell ⟨b, 2, none⟩ v2).heap[b]? = some (.cells #[v0, v1, v2, c3] t (0, 0)) := by
    have := Joins.block_setCell (i := 2) h2 v2
    simpa using this
  have h4 : ((((w.setCell ⟨b, 0, none⟩ v0).setCell ⟨b, 1, none⟩ v1).setCell ⟨b, 2, none⟩ v2).setCell ⟨b, 3, none⟩ v3).heap[b]? = some (.cells #[v0, v1, v2, v3] t (0, 0)) := by
    have := Joins.block_setCell (i := 3) h3 v3
    simpa using this
  exact ⟨by unfold World.cell?; rw [h1]; rfl, by unfold World.cell?; rw [h2]; rfl, by unfold World.cell?; rw [h3]; rfl, by unfold World.cell?; rw [h4]; rfl⟩

/-- What four stores into the result leave. -/
theorem below_res4 {w w2 : World} (h : Below w.heap.size w w2) (v0 v1 v2 v3 : Value) : Below w.heap.size w ((((w2.setCell ⟨w.heap.size + 1, 0, none⟩ v0).setCell ⟨w.heap.size + 1, 1, none⟩ v1).setCell ⟨w.heap.size + 1, 2, none⟩ v2).setCell ⟨w.heap.size + 1, 3, none⟩ v3) :=
  (((h.setCell (p := ⟨w.heap.size + 1, 0, none⟩) (show w.heap.size ≤ w.heap.size + 1 by omega) _).setCell (p := ⟨w.heap.size + 1, 1, none⟩) (show w.heap.size ≤ w.heap.size + 1 by omega) _).setCell (p := ⟨w.heap.size + 1, 2, none⟩) (show w.heap.size ≤ w.heap.size + 1 by omega) _).setCell (p := ⟨w.heap.size + 1, 3, none⟩) (show w.heap.size ≤ w.heap.size + 1 by omega) _
theorem row_res4 {w2 : World} {b base base' : Nat} {e : TypeId} {size n : Nat} {v : Value} {xs : List Value} (h : w2.ownsRow base e size v n xs) (hb : b < base) (hb' : base' ≤ base) (v0 v1 v2 v3 : Value) :
    ((((w2.setCell ⟨b, 0, none⟩ v0).setCell ⟨b, 1, none⟩ v1).setCell ⟨b, 2, none⟩ v2).setCell ⟨b, 3, none⟩ v3).ownsRow base' e size v n xs :=
  Joins.ownsRow_le (ownsRow_setCell_below (ownsRow_setCell_below (ownsRow_setCell_below (ownsRow_setCell_below h (a := ⟨b, 0, none⟩) hb _) (a := ⟨b, 1, none⟩) hb _) (a := ⟨b, 2, none⟩) hb _) (a := ⟨b, 3, none⟩) hb _) hb'

/-- A result of four cells behind a ledger that lies boxed, behind a call. -/
def Box4 (w w2 : World) (a0 a1 : Value) (t : TypeId) : Prop :=
  w2.heap[w.heap.size + 1]? = some (.cells #[.int .i64 0, .int .i64 0, .slice none 0 0, .slice none 0 0] 31 (0, 0)) ∧ Below w.heap.size w w2 ∧ w2.heap[w.heap.size]? = some (.cells #[a0, a1] t (0, 0))

theorem Box4.start {w w2 : World} {a0 a1 : Value} {t : TypeId} (hb : Below ((w.alloc (.cells #[a0, a1] t)).alloc (.cells #[.int .i64 0, .int .i64 0, .slice none 0 0, .slice none 0 0] 31)).heap.size ((w.alloc (.cells #[a0, a1] t)).alloc (.cells #[.int .i64 0, .int .i64 0, .slice none 0 0, .slice none 0 0] 31)) w2) : Hid (Box4 w w2 a0 a1 t) :=
  ⟨(hb.block _ (by simp)).trans (heap_at _ _ _ (by simp)), (below_box2 _ _).trans (hb.mono (by simp; omega)), (hb.block _ (by simp; omega)).trans block_at2⟩
theorem Box4.step {w w2 w3 : World} {a0 a1 : Value} {t : TypeId} (h : Box4 w w2 a0 a1 t) (hb : Below w2.heap.size w2 w3) : Hid (Box4 w w3 a0 a1 t) :=
  ⟨(keepb h.1 hb).out, h.2.1.trans (hb.mono h.2.1.size), (keepb h.2.2 hb).out⟩
theorem Box4.lt {w w2 : World} {a0 a1 : Value} {t : TypeId} (h : Box4 w w2 a0 a1 t) : w.heap.size + 1 < w2.heap.size := lt_of_block h.1

/-- The specification's fault where the ledger lies boxed, a result of four cells behind it. -/
theorem l1Fault_box4 (n m tc gc : Nat) (ta ga : Option Addr) (ss : List ByteArray) (gs : List (Int × Int)) (w : World)
    (htc : n ≤ tc) (hgc : m ≤ gc) (htm : tc ≤ maxLen) (hgm : gc ≤ maxLen) (hf : Fine ss gs) (h : LedAt w ta n ga m ss gs) :
    Calls Try.prog 23 #[.pointer (some ⟨w.heap.size, 0, none⟩)] ((w.alloc (.cells #[.slice ta n tc, .slice ga m gc] 27)).alloc (.cells #[.int .i64 0, .int .i64 0, .slice none 0 0, .slice none 0 0] 31)) fun e w' => e = .returned (.int .i64 (flt ss gs)) ∧ Hid (Box4 w w' (.slice ta n tc) (.slice ga m gc) 27) := by
  have hb : Below w.heap.size w ((w.alloc (.cells #[.slice ta n tc, .slice ga m gc] 27)).alloc (.cells #[.int .i64 0, .int .i64 0, .slice none 0 0, .slice none 0 0] 31)) := below_box2 _ _
  have hx := block_at2 (w := w) (o := .cells #[.slice ta n tc, .slice ga m gc] 27) (o' := .cells #[.int .i64 0, .int .i64 0, .slice none 0 0, .slice none 0 0] 31)
  exact (l1Fault_any w.heap.size n m tc gc ta ga ss gs _ (lt_of_block hx) (by unfold World.cell?; rw [hx]; rfl) (by unfold World.cell?; rw [hx]; rfl) htc hgc htm hgm hf.s (h.s.below hb (Nat.le_refl _)) (h.g.below hb (Nat.le_refl _))).mono fun e w' hr => ⟨hr.1, Box4.start hr.2⟩

theorem newsT {W : World} {H : Nat} {u : Value} {t : TypeId} (h : W.heap[H]? = some (.cells #[u] t (0, 0))) : ∀ j v, [u][j]? = some v → W.cell? ((⟨H, 0, none⟩ : Addr).add j) = some v := by
  intro j v hj
  match j, hj with
  | 0, hj => simp at hj; subst hj; simp [Addr.add, World.cell?, h]
theorem oneS {x : ByteArray} : ∀ u ∈ [Value.string x], u.oneCell' = true := by
  intro u hu
  simp at hu
  subst hu; rfl

theorem row_set_other {W : World} {b i base n : Nat} {e t : TypeId} {size : Nat} {v : Value} {xs : List Value} {cs : Array Value} (h : W.ownsRow base e size v n xs) (hb : W.heap[b]? = some (.cells cs t (0, 0))) (hne : e ≠ t) (u : Value) : (W.setCell ⟨b, i, none⟩ u).ownsRow base e size v n xs := by
  refine ownsRow_setCell_other h (a := ⟨b, i, none⟩) ?_ u
  intro hv
  rcases id h.2 with ⟨rfl, _⟩ | ⟨g, c, cur', rfl, _, hh, _⟩
  · simp [Value.ownBlock] at hv
  · simp [Value.ownBlock] at hv
    subst hv
    rw [hb] at hh
    simp at hh
    exact hne hh.2.symm

theorem nt_new {w w2 w3 w5 : World} {a0 a1 : Value} {n m g0 k0 g1 k1 g cap : Nat} {ss : List ByteArray} {gs : List (Int × Int)} {o : Obj} {zs : List Value}
    (HB : Box4 w (w3.alloc (.cells #[.slice (some ⟨g0, 0, none⟩) n k0, .slice (some ⟨g1, 0, none⟩) m k1] 27)) a0 a1 27) (HO : OwnL (w3.alloc (.cells #[.slice (some ⟨g0, 0, none⟩) n k0, .slice (some ⟨g1, 0, none⟩) m k1] 27)) w2.heap.size n m ss gs g0 k0 g1 k1) (HX : (w3.alloc (.cells #[.slice (some ⟨g0, 0, none⟩) n k0, .slice (some ⟨g1, 0, none⟩) m k1] 27)).heap[w3.heap.size]? = some (.cells #[.slice (some ⟨g0, 0, none⟩) n k0, .slice (some ⟨g1, 0, none⟩) m k1] 27 (0, 0)))
    (ho : w5.ownsRow w2.heap.size 9 1 (.slice (some ⟨g, 0, none⟩) (n + 1) cap) (n + 1) zs) (hg : ((w3.alloc (.cells #[.slice (some ⟨g0, 0, none⟩) n k0, .slice (some ⟨g1, 0, none⟩) m k1] 27)).alloc o).grownBy w5 (Value.ownBlock (.slice (some ⟨g0, 0, none⟩) n k0))) (h12 : w.heap.size + 1 < w2.heap.size) (h23 : w2.heap.size ≤ w3.heap.size) :
    w5.cell? ⟨w3.heap.size, 0, none⟩ = some (.slice (some ⟨g0, 0, none⟩) n k0) ∧ w5.cell? ⟨w3.heap.size, 1, none⟩ = some (.slice (some ⟨g1, 0, none⟩) m k1) ∧ w5.frozen? ⟨w3.heap.size, 0, none⟩ = false ∧
    (w5.setCell ⟨w3.heap.size, 0, none⟩ (.slice (some ⟨g, 0, none⟩) (n + 1) cap)).cell? ⟨w3.heap.size, 0, none⟩ = some (.slice (some ⟨g, 0, none⟩) (n + 1) cap) ∧
    (w5.setCell ⟨w3.heap.size, 0, none⟩ (.slice (some ⟨g, 0, none⟩) (n + 1) cap)).cell? ⟨w3.heap.size, 1, none⟩ = some (.slice (some ⟨g1, 0, none⟩) m k1) ∧
    Hid (Box4 w (w5.setCell ⟨w3.heap.size, 0, none⟩ (.slice (some ⟨g, 0, none⟩) (n + 1) cap)) a0 a1 27 ∧ (w5.setCell ⟨w3.heap.size, 0, none⟩ (.slice (some ⟨g, 0, none⟩) (n + 1) cap)).ownsRow w2.heap.size 9 1 (.slice (some ⟨g, 0, none⟩) (n + 1) cap) (n + 1) zs ∧
      (w5.setCell ⟨w3.heap.size, 0, none⟩ (.slice (some ⟨g, 0, none⟩) (n + 1) cap)).ownsRow w2.heap.size 53 2 (.slice (some ⟨g1, 0, none⟩) m k1) m (gcells gs)) ∧
    (w5.setCell ⟨w3.heap.size, 0, none⟩ (.slice (some ⟨g, 0, none⟩) (n + 1) cap)).cell? ⟨w.heap.size + 1, 0, none⟩ = some (.int .i64 0) ∧ (w5.setCell ⟨w3.heap.size, 0, none⟩ (.slice (some ⟨g, 0, none⟩) (n + 1) cap)).cell? ⟨w.heap.size + 1, 1, none⟩ = some (.int .i64 0) ∧ (w5.setCell ⟨w3.heap.size, 0, none⟩ (.slice (some ⟨g, 0, none⟩) (n + 1) cap)).cell? ⟨w.heap.size + 1, 2, none⟩ = some (.slice none 0 0) ∧ (w5.setCell ⟨w3.heap.size, 0, none⟩ (.slice (some ⟨g, 0, none⟩) (n + 1) cap)).cell? ⟨w.heap.size + 1, 3, none⟩ = some (.slice none 0 0) ∧
    (w5.setCell ⟨w3.heap.size, 0, none⟩ (.slice (some ⟨g, 0, none⟩) (n + 1) cap)).frozen? ⟨w.heap.size + 1, 0, none⟩ = false ∧ (w5.setCell ⟨w3.heap.size, 0, none⟩ (.slice (some ⟨g, 0, none⟩) (n + 1) cap)).frozen? ⟨w.heap.size + 1, 1, none⟩ = false ∧ (w5.setCell ⟨w3.heap.size, 0, none⟩ (.slice (some ⟨g, 0, none⟩) (n + 1) cap)).frozen? ⟨w.heap.size + 1, 2, none⟩ = false ∧ (w5.setCell ⟨w3.heap.size, 0, none⟩ (.slice (some ⟨g, 0, none⟩) (n + 1) cap)).frozen? ⟨w.heap.size + 1, 3, none⟩ = false := by
  have hgX : ∃ cur, (w3.alloc (.cells #[.slice (some ⟨g0, 0, none⟩) n k0, .slice (some ⟨g1, 0, none⟩) m k1] 27)).heap[g0]? = some (.cells cur 9 (0, 0)) := by
    rcases HO.1.2 with ⟨e, _⟩ | ⟨g', c', cur, e, _, hh, _⟩
    · cases e
    · simp at e
      obtain ⟨rfl, rfl⟩ := e
      exact ⟨cur, hh⟩
  obtain ⟨cur, hcur⟩ := hgX
  have kp : ∀ {b : Nat} {cs : Array Value} {t : TypeId}, (w3.alloc (.cells #[.slice (some ⟨g0, 0, none⟩) n k0, .slice (some ⟨g1, 0, none⟩) m k1] 27)).heap[b]? = some (.cells cs t (0, 0)) → t ≠ 9 → w5.heap[b]? = some (.cells cs t (0, 0)) := by
    intro b cs t hb hne
    have hbl := lt_of_block hb
    have hbg : b ≠ g0 := by rintro rfl; rw [hb] at hcur; simp at hcur; exact hne hcur.2
    exact (hg.block b (by simp only [World.size_alloc] at hbl ⊢; omega) (by simpa [Value.ownBlock] using hbg)).trans ((Below.heap_alloc _ _ b hbl).trans hb)
  have hX5 := kp HX (by decide)
  have hR5 := kp HB.1 (by decide)
  have hA5 := kp HB.2.2 (by decide)
  have hne1 : w.heap.size + 1 ≠ w3.heap.size := by omega
  have hne0 : w.heap.size ≠ w3.heap.size := by omega
  have hB5 : Below w.heap.size w w5 := (HB.2.1.alloc HB.2.1.size _).grown hg (by have := HB.2.1.size; simp only [World.size_alloc] at this ⊢; omega) (fun j hj => by have := (HO.1.lt j hj).1; omega)
  have hX6 : (w5.setCell ⟨w3.heap.size, 0, none⟩ (.slice (some ⟨g, 0, none⟩) (n + 1) cap)).heap[w3.heap.size]? = some (.cells #[.slice (some ⟨g, 0, none⟩) (n + 1) cap, .slice (some ⟨g1, 0, none⟩) m k1] 27 (0, 0)) := by
    have := Joins.block_setCell (i := 0) hX5 (.slice (some ⟨g, 0, none⟩) (n + 1) cap)
    simpa using this
  have hR6 := (Below.heap_setCell w5 ⟨w3.heap.size, 0, none⟩ (.slice (some ⟨g, 0, none⟩) (n + 1) cap) (w.heap.size + 1) hne1).trans hR5
  have hA6 := (Below.heap_setCell w5 ⟨w3.heap.size, 0, none⟩ (.slice (some ⟨g, 0, none⟩) (n + 1) cap) w.heap.size hne0).trans hA5
  have hgr := keep_row (X := g0) hg ((Below.heap_alloc _ _ g0 (lt_of_block hcur)).trans hcur) (HO.2.alloc _) (by decide)
  refine ⟨(cells2 hX5).1, (cells2 hX5).2, Joins.unfrozen_of_block hX5 0, (cells2 hX6).1, (cells2 hX6).2, ⟨⟨hR6, hB5.setCell (p := ⟨w3.heap.size, 0, none⟩) (show w.heap.size ≤ w3.heap.size by omega) _, hA6⟩, row_set_other ho hX5 (by decide) _, row_set_other hgr hX5 (by decide) _⟩, cells4 hR6⟩

end Go.Proofs.Ytapicejadjeejaa
