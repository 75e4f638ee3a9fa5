/- Rules that are drawn: whatever the bytes, some rule, its keys in memory of its own. -/
import Derived.Test.YtgfhnmjpkanikaaDr
import Derived.Test.YtgfhnmjpkanikaaJn1
import Derived.Test.YtgfhnmjpkanikaaCv
import Derived.Test.YtgfhnmjpkanikaaTtX
import Derived.Test.YtgfhnmjpkanikaaRv
namespace Go.Proofs.Ytgfhnmjpkanikaa
open Go.RowKit Go.Shelf Go.Maps Go.WideMaps

section
variable {w w2 W v : World} {b c : Nat} {c0 c1 c2 : Value} {t : TypeId}
theorem three_heapK (hne : c ≠ b) (v0 v1 v2 : Value) : (((w.setCell ⟨b, 0, none⟩ v0).setCell ⟨b, 1, none⟩ v1).setCell ⟨b, 2, none⟩ v2).heap[c]? = w.heap[c]? :=
  (Below.heap_setCell _ ⟨b, 2, none⟩ _ c hne).trans ((Below.heap_setCell _ ⟨b, 1, none⟩ _ c hne).trans (Below.heap_setCell _ ⟨b, 0, none⟩ _ c hne))
end

/-- A rule under way in block LB, the result's block behind what was there, the source as it goes. -/
structure Dk (w v V : World) (SB : Nat) (ca : Option Addr) (cn cc t LB : Nat) (va : Option Addr) (vc : Nat) (l : List Int) (x y : Int) : Prop where
  box : V.heap[LB]? = some (.cells #[.slice va l.length vc, .int .i64 x, .int .i64 y] 74 (0, 0))
  res : V.heap[v.heap.size]? = some (.cells #[.slice none 0 0, .int .i64 0, .int .i64 0] 74 (0, 0))
  src : Src w V SB ca cn cc t
  chg : Chg v V SB (SB + 1)
  row : V.ownsRow (v.heap.size + 1) 2 1 (.slice va l.length vc) l.length (ints l)
  ord : SB < v.heap.size ∧ v.heap.size < LB
theorem intk_added {W : World} {lo X j : Nat} {v : Value} {ks : List Int} {k : Int} (h : W.ownsRow lo 2 1 v j (ints ks)) (hX : W.heap[X]? = some (.cells #[.int .i64 k] 2 (0, 0))) (hj : j ≤ 1000) (hlo : lo ≤ W.heap.size) :
    ∃ g cap w5, (Builtin.append_ #[39, 39] 39 #[v, .slice (some ⟨X, 0, none⟩) 1 1]).run Try.prog W = .ok (.slice (some ⟨g, 0, none⟩) (j + 1) cap) w5 ∧
      Hid (w5.ownsRow lo 2 1 (.slice (some ⟨g, 0, none⟩) (j + 1) cap) (j + 1) (ints (ks ++ [k])) ∧ W.grownBy w5 v.ownBlock) := by
  obtain ⟨i0, hi, hz0, hz1, hz2⟩ := info_parts Try.infoI64
  obtain ⟨v', w5, hrun, hown', hgrow, hsome⟩ := run_append_own (P := Try.prog) W lo 39 39 2 i0 (.int .i64 0) 1 8 Try.underlying39 hi hz0 hz1 hz2 rfl (by decide) v j (ints ks) h ⟨X, 0, none⟩ 1 1 [.int .i64 k] rfl (World.news_of_block hX) (by
    intro z hz
    simp only [List.mem_cons, List.not_mem_nil, or_false] at hz
    subst hz; rfl) (by unfold maxLen; omega) (by omega) hlo
  obtain ⟨g, cap, rfl⟩ := ownsRow_succ hown'
  refine ⟨g, cap, w5, hrun, ?_, hgrow⟩
  rw [show ints (ks ++ [k]) = ints ks ++ [.int .i64 k] by simp [ints]]
  exact hown'
theorem row_neR {V : World} {base n c LB : Nat} {a : Option Addr} {xs cs : List Value} {fz : Nat × Nat} (hr : V.ownsRow base 2 1 (.slice a n c) n xs) (hb : V.heap[LB]? = some (.cells cs.toArray 74 fz)) : ∀ b, Value.ownBlock (.slice a n c) = some b → b ≠ LB := by
  intro b hbb e
  subst e
  rcases hr.2 with ⟨e1, _⟩ | ⟨g, cap, cur, e1, _, h2, _⟩
  · rw [e1] at hbb; cases hbb
  · rw [e1] at hbb
    have e2 : g = b := by simpa [Value.ownBlock] using hbb
    subst e2
    rw [h2] at hb
    have := Option.some.inj hb
    injection this with _ e3
    exact absurd e3 (by decide)
section
variable {w v V V' : World} {SB : Nat} {ca : Option Addr} {cn cc t t' LB : Nat} {va : Option Addr} {vc : Nat} {l : List Int} {x y : Int}
theorem chgMoreK {lo hi B : Nat} (h : Chg v V lo hi) (hb : Below B V V') (hB : v.heap.size ≤ B) : Chg v V' lo hi := ⟨hb.os.trans h.os, hb.tape.trans h.tape, hb.output.trans h.output, Nat.le_trans h.size hb.size, fun b hbs ho => (hb.block b (by omega)).trans (h.block b hbs ho)⟩
theorem Dk.step (H : Dk w v V SB ca cn cc t LB va vc l x y) (hb : Below V.heap.size V V') : Dk w v V' SB ca cn cc t LB va vc l x y :=
  ⟨(keepb H.box hb).out, (keepb H.res hb).out, H.src.step hb, chgMoreK H.chg hb H.chg.size, H.row.kept (grown_of_below hb) (by cases Value.ownBlock (.slice va l.length vc) <;> simp), H.ord⟩
theorem Dk.draw (H : Dk w v V SB ca cn cc t LB va vc l x y) (hS : Src w V' SB ca cn cc t') (hc : Chg V V' SB (SB + 1)) : Dk w v V' SB ca cn cc t' LB va vc l x y := by
  have := H.ord
  exact ⟨hc.keep1 H.box (by omega), hc.keep1 H.res (by omega), hS, H.chg.trans hc, hc.row1 H.row (by omega), H.ord⟩
theorem Dk.lt (H : Dk w v V SB ca cn cc t LB va vc l x y) : LB < V.heap.size := lt_of_block H.box
theorem Dk.cells (H : Dk w v V SB ca cn cc t LB va vc l x y) : V.cell? ⟨LB, 0, none⟩ = some (.slice va l.length vc) ∧ V.cell? ⟨LB, 1, none⟩ = some (.int .i64 x) ∧ V.cell? ⟨LB, 2, none⟩ = some (.int .i64 y) := cells3 H.box
theorem Dk.fz (H : Dk w v V SB ca cn cc t LB va vc l x y) (i : Nat) : V.frozen? ⟨LB, i, none⟩ = false := Joins.unfrozen_of_block H.box i
theorem Dk.ne (H : Dk w v V SB ca cn cc t LB va vc l x y) : ∀ b, Value.ownBlock (.slice va l.length vc) = some b → b ≠ LB := row_neR (cs := [.slice va l.length vc, .int .i64 x, .int .i64 y]) H.row H.box
/-- A number of the rule is set. -/
theorem Dk.setk {x' y' : Int} {i : Nat} {u : Value} (H : Dk w v V SB ca cn cc t LB va vc l x y) (hq : (#[.slice va l.length vc, .int .i64 x, .int .i64 y] : Array Value).setIfInBounds i u = #[.slice va l.length vc, .int .i64 x', .int .i64 y']) : Dk w v (V.setCell ⟨LB, i, none⟩ u) SB ca cn cc t LB va vc l x' y' := by
  have ho := H.ord
  refine ⟨?_, (Below.heap_setCell _ ⟨LB, i, none⟩ _ v.heap.size (show v.heap.size ≠ LB by omega)).trans H.res, ?_, ?_, ownsRow_setCell_other H.row (a := ⟨LB, i, none⟩) (fun e => H.ne _ e rfl) u, ho⟩
  · have := Joins.block_setCell (i := i) H.box u
    rw [hq] at this
    exact this
  · exact ⟨(Below.heap_setCell _ ⟨LB, i, none⟩ _ SB (show SB ≠ LB by omega)).trans H.src.box, H.src.bel.setCell (p := ⟨LB, i, none⟩) (show w.heap.size ≤ LB by have := H.src.sb; omega) _, H.src.sb⟩
  · exact ⟨H.chg.os, H.chg.tape, H.chg.output, by simpa using H.chg.size, fun b hb hd => (Below.heap_setCell _ ⟨LB, i, none⟩ _ b (show b ≠ LB by omega)).trans (H.chg.block b hb hd)⟩
/-- The keys are others, in memory at least as new as the result's block. -/
theorem Dk.other {l' : List Int} {a' : Option Addr} {c' : Nat} (H : Dk w v V SB ca cn cc t LB va vc l x y) (hr : V.ownsRow (v.heap.size + 1) 2 1 (.slice a' l'.length c') l'.length (ints l')) :
    Dk w v (V.setCell ⟨LB, 0, none⟩ (.slice a' l'.length c')) SB ca cn cc t LB a' c' l' x y := by
  have ho := H.ord
  have hne : ∀ b, Value.ownBlock (.slice a' l'.length c') = some b → b ≠ LB := row_neR (cs := [.slice va l.length vc, .int .i64 x, .int .i64 y]) hr H.box
  refine ⟨?_, (Below.heap_setCell _ ⟨LB, 0, none⟩ _ v.heap.size (show v.heap.size ≠ LB by omega)).trans H.res, ?_, ?_, ownsRow_setCell_other hr (a := ⟨LB, 0, none⟩) (fun e => hne _ e rfl) _, ho⟩
  · have := Joins.block_setCell (i := 0) H.box (.slice a' l'.length c')
    simpa using this
  · exact ⟨(Below.heap_setCell _ ⟨LB, 0, none⟩ _ SB (show SB ≠ LB by omega)).trans H.src.box, H.src.bel.setCell (p := ⟨LB, 0, none⟩) (show w.heap.size ≤ LB by have := H.src.sb; omega) _, H.src.sb⟩
  · exact ⟨H.chg.os, H.chg.tape, H.chg.output, by simpa using H.chg.size, fun b hb hd => (Below.heap_setCell _ ⟨LB, 0, none⟩ _ b (show b ≠ LB by omega)).trans (H.chg.block b hb hd)⟩
/-- A rule begun with one key. -/
theorem Dk.start (hS : Src w V SB ca cn cc t) (hc : Chg v V SB (SB + 1)) (hr : V.heap[v.heap.size]? = some (.cells #[.slice none 0 0, .int .i64 0, .int .i64 0] 74 (0, 0))) (hl : SB < v.heap.size) (k : Int) : Dk w v ((V.alloc (.cells #[.int .i64 k] 2)).alloc (.cells #[.slice (some ⟨V.heap.size, 0, none⟩) 1 1, .int .i64 0, .int .i64 0] 74)) SB ca cn cc t (V.heap.size + 1) (some ⟨V.heap.size, 0, none⟩) 1 [k] 0 0 := by
  have hb := below_box2 (w := V) (.cells #[.int .i64 k] 2) (.cells #[.slice (some ⟨V.heap.size, 0, none⟩) 1 1, .int .i64 0, .int .i64 0] 74)
  have h1 : ((V.alloc (.cells #[.int .i64 k] 2)).alloc (.cells #[.slice (some ⟨V.heap.size, 0, none⟩) 1 1, .int .i64 0, .int .i64 0] 74)).heap[V.heap.size]? = some (.cells #[.int .i64 k] 2 (0, 0)) := (keepb (heap_alloc_new V _) (below_box _)).out
  have hlt := lt_of_block hr
  refine ⟨heap_alloc_at _ _ _ (by simp), (keepb hr hb).out, hS.step hb, hc.trans (Chg.of_below hb _ _), ⟨rfl, .inr ⟨V.heap.size, 1, #[.int .i64 k], rfl, hlt, h1, Nat.le_refl _, by unfold maxLen; omega, rfl, rfl⟩⟩, hl, by omega⟩
/-- One key more. -/
theorem Dk.more {k : Int} (H : Dk w v V SB ca cn cc t LB va vc l x y) (hl : l.length ≤ 500) :
    ∃ g cap w5, (Builtin.append_ #[39, 39] 39 #[.slice va l.length vc, .slice (some ⟨V.heap.size, 0, none⟩) 1 1]).run Try.prog (V.alloc (.cells #[.int .i64 k] 2)) = .ok (.slice (some ⟨g, 0, none⟩) (l.length + 1) cap) w5 ∧
      (w5.cell? ⟨LB, 0, none⟩ = some (.slice va l.length vc) ∧ w5.frozen? ⟨LB, 0, none⟩ = false) ∧ Hid (Dk w v (w5.setCell ⟨LB, 0, none⟩ (.slice (some ⟨g, 0, none⟩) (l.length + 1) cap)) SB ca cn cc t LB (some ⟨g, 0, none⟩) cap (l ++ [k]) x y) := by
  have H1 := H.step (below_box (.cells #[.int .i64 k] 2))
  have ho := H.ord
  have hlt := H.lt
  have hvs := H.chg.size
  have hss := H.src.lt
  obtain ⟨g, cap, w5, hrun, HG⟩ := intk_added (k := k) (X := V.heap.size) H1.row (heap_alloc_new _ _) (by omega) (by simp; omega)
  obtain ⟨hown, hgr⟩ := HG.out
  have hbk : ∀ b, b < v.heap.size + 1 ∨ b = LB → b < V.heap.size → w5.heap[b]? = (V.alloc (.cells #[.int .i64 k] 2)).heap[b]? := fun b hb hs => hgr.block b (by simp; omega) (fun e => by
    rcases hb with hb | hb
    · have := (H1.row.lt b e.symm).1; omega
    · exact H1.ne b e.symm hb)
  have b5 := (hbk LB (.inr rfl) hlt).trans H1.box
  have c3 := (cells3 b5).1
  have f3 := Joins.unfrozen_of_block b5 0
  refine ⟨g, cap, w5, hrun, ⟨c3, f3⟩, ?_⟩
  have hlen : (l ++ [k]).length = l.length + 1 := by simp
  have hne := row_neR (cs := [.slice va l.length vc, .int .i64 x, .int .i64 y]) hown b5
  show Dk _ _ _ _ _ _ _ _ _ _ _ _ _ _
  refine ⟨?_, (Below.heap_setCell _ ⟨LB, 0, none⟩ _ v.heap.size (show v.heap.size ≠ LB by omega)).trans ((hbk _ (.inl (by omega)) (by omega)).trans H1.res), ?_, ?_, ?_, ho⟩
  · have := Joins.block_setCell (i := 0) b5 (.slice (some ⟨g, 0, none⟩) (l.length + 1) cap)
    rw [hlen]
    simpa using this
  · refine ⟨(Below.heap_setCell _ ⟨LB, 0, none⟩ _ SB (show SB ≠ LB by omega)).trans ((hbk SB (.inl (by omega)) (by omega)).trans H1.src.box), ?_, H.src.sb⟩
    have hsb := H.src.sb
    refine Below.setCell (p := ⟨LB, 0, none⟩) ?_ (show w.heap.size ≤ LB by omega) _
    exact ⟨hgr.os.trans H1.src.bel.os, hgr.tape.trans H1.src.bel.tape, hgr.output.trans H1.src.bel.output, Nat.le_trans H1.src.bel.size hgr.size, fun b hb => (hbk b (.inl (by omega)) (by have := H.src.bel.size; omega)).trans (H1.src.bel.block b hb)⟩
  · have hg5 := hgr.size
    exact ⟨hgr.os.trans H1.chg.os, hgr.tape.trans H1.chg.tape, hgr.output.trans H1.chg.output, by have := H1.chg.size; simp only [World.size_setCell]; omega, fun b hb hd => (Below.heap_setCell _ ⟨LB, 0, none⟩ _ b (show b ≠ LB by omega)).trans ((hbk b (.inl (by omega)) (by omega)).trans (H1.chg.block b hb hd))⟩
  · rw [hlen]
    exact ownsRow_setCell_other hown (a := ⟨LB, 0, none⟩) (fun e => hne _ e rfl) _
/-- The rule is handed back. -/
def OutDk (w v : World) (SB : Nat) (ca : Option Addr) (cn cc T : Nat) (e : Ending) (v' : World) (K : List Int → Int → Int → Prop) : Prop :=
  ∃ (l : List Int) (x y : Int) (va : Option Addr) (vc t' : Nat), e = .returned (.agg #[.slice va l.length vc, .int .i64 x, .int .i64 y]) ∧ Hid (v'.ownsRow v.heap.size 2 1 (.slice va l.length vc) l.length (ints l)) ∧ Hid (K l x y) ∧ t' ≤ T ∧ Hid (Src w v' SB ca cn cc t') ∧ Hid (Chg v v' SB (SB + 1))
theorem Dk.ret (H : Dk w v V SB ca cn cc t LB va vc l x y) {T : Nat} (hT : t ≤ T) {K : List Int → Int → Int → Prop} (hK : K l x y) {e : Ending} (he : e = .returned (.agg #[.slice va l.length vc, .int .i64 x, .int .i64 y])) (v0 v1 v2 : Value) :
    OutDk w v SB ca cn cc T e (((V.setCell ⟨v.heap.size, 0, none⟩ v0).setCell ⟨v.heap.size, 1, none⟩ v1).setCell ⟨v.heap.size, 2, none⟩ v2) K := by
  have ho := H.ord
  have hsb := H.src.sb
  refine ⟨l, x, y, va, vc, t, he, Joins.ownsRow_le (ownsRow_setCell_below (ownsRow_setCell_below (ownsRow_setCell_below H.row (a := ⟨v.heap.size, 0, none⟩) (show v.heap.size < _ by omega) _) (a := ⟨v.heap.size, 1, none⟩) (show v.heap.size < _ by omega) _) (a := ⟨v.heap.size, 2, none⟩) (show v.heap.size < _ by omega) _) (by omega), hK, hT, ?_, ?_⟩
  · exact ⟨(three_heapK (b := v.heap.size) (c := SB) (by omega) _ _ _).trans H.src.box, ((H.src.bel.setCell (p := ⟨v.heap.size, 0, none⟩) (show w.heap.size ≤ v.heap.size by omega) _).setCell (p := ⟨v.heap.size, 1, none⟩) (show w.heap.size ≤ v.heap.size by omega) _).setCell (p := ⟨v.heap.size, 2, none⟩) (show w.heap.size ≤ v.heap.size by omega) _, hsb⟩
  · exact ⟨H.chg.os, H.chg.tape, H.chg.output, by simpa using H.chg.size, fun b hb hd => (three_heapK (b := v.heap.size) (c := b) (by omega) _ _ _).trans (H.chg.block b hb hd)⟩
end

theorem iatK3 (V : World) (a b c : Int) : IAt (V.alloc (.cells #[.int .i64 a, .int .i64 b, .int .i64 c] 2)) (some ⟨V.heap.size, 0, none⟩) 3 [a, b, c] :=
  ⟨rfl, .inr ⟨V.heap.size, 0, rfl, by simp, fun j hj => by
    have h := heap_alloc_new V (.cells #[.int .i64 a, .int .i64 b, .int .i64 c] 2)
    match j, hj with
    | 0, _ => unfold World.cell?; rw [h]; rfl
    | 1, _ => unfold World.cell?; rw [h]; rfl
    | 2, _ => unfold World.cell?; rw [h]; rfl⟩⟩
theorem iatK4 (V : World) (a b c d : Int) : IAt (V.alloc (.cells #[.int .i64 a, .int .i64 b, .int .i64 c, .int .i64 d] 2)) (some ⟨V.heap.size, 0, none⟩) 4 [a, b, c, d] :=
  ⟨rfl, .inr ⟨V.heap.size, 0, rfl, by simp, fun j hj => by
    have h := heap_alloc_new V (.cells #[.int .i64 a, .int .i64 b, .int .i64 c, .int .i64 d] 2)
    match j, hj with
    | 0, _ => unfold World.cell?; rw [h]; rfl
    | 1, _ => unfold World.cell?; rw [h]; rfl
    | 2, _ => unfold World.cell?; rw [h]; rfl
    | 3, _ => unfold World.cell?; rw [h]; rfl⟩⟩
/-- What is told of a rule that is drawn right: one to three small keys. -/
def KR (l : List Int) (x y : Int) : Prop := (1 ≤ l.length ∧ l.length ≤ 3) ∧ (∀ k ∈ l, 1 ≤ k ∧ k ≤ 40) ∧ (1 ≤ x ∧ x ≤ 3) ∧ 0 ≤ y ∧ y ≤ 9
/-- Of one that is bent. -/
def KRB (l : List Int) (x y : Int) : Prop := l.length ≤ 4 ∧ (∀ k ∈ l, 0 ≤ k ∧ k ≤ 1000) ∧ (0 ≤ x ∧ x ≤ 4) ∧ -1 ≤ y ∧ y ≤ 1000
theorem last_at {w v V : World} {SB : Nat} {ca : Option Addr} {cn cc t LB : Nat} {g vc : Nat} {l : List Int} {x y s : Int} (H : Dk w v V SB ca cn cc t LB (some ⟨g, 0, none⟩) vc l x y) (h1 : 1 ≤ l.length) (hs : s = l.getD (l.length - 1) 0) : V.cell? ⟨g, l.length - 1, none⟩ = some (.int .i64 s) := by
  have := H.row.cellAt (l.length - 1) (by omega)
  rw [this, hs]
  simp [ints, List.getD, List.getElem?_eq_getElem (show l.length - 1 < l.length by omega)]

/-- What holds in the midst of a key's drawing, whatever has been done of it. -/
structure R5 (w v : World) (SB : Nat) (ca : Option Addr) (cn cc t0 LB g vc : Nat) (l : List Int) (s : Int) (n : Nat) (V : World) (b0 b1 b2 b3 b4 b5 b6 b7 b8 b9 b10 b11 b12 b13 b14 b15 b16 b17 : Bool) (x16 x17 x18 x19 x20 x21 x22 x23 x24 x25 x26 x27 x28 x29 x30 x31 x32 : Value) : Prop where
  len : l.length = n + 1
  m0 : b14 = false → Dk w v V SB ca cn cc (t0 + b12.toNat) LB (some ⟨g, 0, none⟩) vc l 0 0
  m1 : b14 = true → b15 = false → ∃ (U : World) (k : Int), V = U.alloc (.cells #[.int .i64 k] 2) ∧ Dk w v U SB ca cn cc (t0 + 1) LB (some ⟨g, 0, none⟩) vc l 0 0 ∧ x30 = .slice (some ⟨U.heap.size, 0, none⟩) 1 1 ∧ 1 ≤ k ∧ k ≤ s + 2
  m2 : b15 = true → b17 = false → ∃ (g7 cap : Nat) (k : Int), x31 = .slice (some ⟨g7, 0, none⟩) (n + 2) cap ∧ V.cell? ⟨LB, 0, none⟩ = some (.slice (some ⟨g, 0, none⟩) (n + 1) vc) ∧ V.frozen? ⟨LB, 0, none⟩ = false ∧ Dk w v (V.setCell ⟨LB, 0, none⟩ (.slice (some ⟨g7, 0, none⟩) (n + 2) cap)) SB ca cn cc (t0 + 1) LB (some ⟨g7, 0, none⟩) cap (l ++ [k]) 0 0 ∧ 1 ≤ k ∧ k ≤ s + 2
  m3 : b17 = true → ∃ (g7 cap : Nat) (k : Int), Dk w v V SB ca cn cc (t0 + 1) LB (some ⟨g7, 0, none⟩) cap (l ++ [k]) 0 0 ∧ 1 ≤ k ∧ k ≤ s + 2
  f0 : b0 = true → x16 = .pointer (some ⟨LB, 0, none⟩)
  f1 : b1 = true → x17 = .slice (some ⟨g, 0, none⟩) (n + 1) vc
  f2 : b2 = true → x18 = .pointer (some ⟨LB, 0, none⟩)
  f3 : b3 = true → x19 = .slice (some ⟨g, 0, none⟩) (n + 1) vc
  f4 : b4 = true → x20 = .pointer (some ⟨LB, 0, none⟩)
  f5 : b5 = true → x21 = .slice (some ⟨g, 0, none⟩) (n + 1) vc
  f6 : b6 = true → x22 = .int .i64 ((n : Int) + 1)
  f7 : b7 = true → x23 = .int .i64 (n : Int)
  f8 : b8 = true → x24 = .pointer (some ⟨g, n, none⟩)
  f9 : b9 = true → x25 = .int .i64 s
  f10 : b10 = true → x26 = .int .i64 (s + 1)
  f11 : b11 = true → x27 = .pointer (some ⟨SB, 0, none⟩)
  f16 : b16 = true → x32 = .pointer (some ⟨LB, 0, none⟩)
  f12 : b12 = true → ∃ r : Int, x28 = .int .i64 r ∧ 0 ≤ r ∧ r < 2
  f13 : b13 = true → ∃ k : Int, x29 = .int .i64 k ∧ 1 ≤ k ∧ k ≤ s + 2
  o13 : b13 = true → b10 = true ∧ b12 = true
  o10 : b10 = true → b9 = true
  o9 : b9 = true → b8 = true
  o8 : b8 = true → b3 = true ∧ b7 = true
  o7 : b7 = true → b6 = true
  o6 : b6 = true → b5 = true
  o14 : b14 = true → b13 = true
  o15 : b15 = true → b14 = true ∧ b1 = true
  o17 : b17 = true → b15 = true

set_option maxRecDepth 20000 in
set_option maxHeartbeats 8000000 in
theorem l2Draw_any (SB cn cc t : Nat) (ca : Option Addr) (l0 : List Int) (w v : World) (ht : t ≤ 900) (hcn : cn ≤ 1048576) (hB : BAt w ca cn l0) (h : Src w v SB ca cn cc t) :
    Calls Try.prog 34 #[.pointer (some ⟨SB, 0, none⟩)] v fun e v' => OutDk w v SB ca cn cc (t + 7) e v' KR := by
  have HBA : Hid (BAt w ca cn l0) := hB
  have hlt := h.lt
  have h1 := l1Next_any SB cn cc t ca l0 3 w (v.alloc (.cells #[.slice none 0 0, .int .i64 0, .int .i64 0] 74)) (by omega) (by omega) hcn hB (h.step (below_box _))
  have HC1 : Hid (Chg v (v.alloc (.cells #[.slice none 0 0, .int .i64 0, .int .i64 0] 74)) SB (SB + 1)) := Chg.of_below (below_box _) _ _
  have HR1 : Hid ((v.alloc (.cells #[.slice none 0 0, .int .i64 0, .int .i64 0] 74)).heap[v.heap.size]? = some (.cells #[.slice none 0 0, .int .i64 0, .int .i64 0] 74 (0, 0))) := heap_alloc_new _ _
  clear hB h
  go_enter Try.func34, Try.ntmps34
  go_wp2_with (first
    | (go_at_call 17; have hq := h1; clear h1; (with_reducible refine hq.mono ?_); clear hq; rintro e v2 ⟨r1, rfl, ⟨a1, b1⟩, hS2, hc2⟩; have b1' : r1 < 3 := b1 (by omega); clear b1; have hw1 := IntWalk.i64_in (1 + r1) (by omega); have HC2 : Hid (Chg v v2 SB (SB + 1)) := HC1.out.trans hc2; have HR2 : Hid (v2.heap[v.heap.size]? = some (.cells #[.slice none 0 0, .int .i64 0, .int .i64 0] 74 (0, 0))) := hc2.keep1 HR1.out (by omega); have HD2 : Hid (Dk w v ((v2.alloc (.cells #[.int .i64 (1 + r1)] 2)).alloc (.cells #[.slice (some ⟨v2.heap.size, 0, none⟩) 1 1, .int .i64 0, .int .i64 0] 74)) SB ca cn cc (t + 1) (v2.heap.size + 1) (some ⟨v2.heap.size, 0, none⟩) 1 [1 + r1] 0 0) := Dk.start hS2 HC2.out HR2.out hlt (1 + r1); have h2 := l1Next_any SB cn cc (t + 1) ca l0 3 w ((v2.alloc (.cells #[.int .i64 (1 + r1)] 2)).alloc (.cells #[.slice (some ⟨v2.heap.size, 0, none⟩) 1 1, .int .i64 0, .int .i64 0] 74)) (by omega) (by omega) hcn HBA.out HD2.out.src; clear hS2 hc2)
    | (go_at_call 17; have hq := h2; clear h2; (with_reducible refine hq.mono ?_); clear hq; rintro e v3 ⟨r2, rfl, ⟨a2, b2⟩, hS3, hc3⟩; have b2' : r2 < 3 := b2 (by omega); clear b2; have HD3 : Hid (Dk w v v3 SB ca cn cc (t + 1 + 1) (v2.heap.size + 1) (some ⟨v2.heap.size, 0, none⟩) 1 [1 + r1] 0 0) := HD2.out.draw hS3 hc3; clear hS3 hc3))
  obtain ⟨k2, rfl⟩ := Int.eq_ofNat_of_zero_le a2
  clear HR1 HC1 HC2 HR2 HD2
  go_loopw [4] (fun i wr => ∃ k : Nat, k ≤ 2 ∧ i = .int .i64 k ∧ Hid (∃ (t' g vc : Nat) (l : List Int), Dk w v wr SB ca cn cc t' (v2.heap.size + 1) (some ⟨g, 0, none⟩) vc l 0 0 ∧ 1 ≤ l.length ∧ (∀ q ∈ l, 1 ≤ q ∧ q ≤ 4 * l.length) ∧ l.length + k ≤ 3 ∧ t' + k ≤ t + 4)) (fun i _ => (intOf i).toNat)
  case atStart => exact ⟨k2, by omega, rfl, _, _, _, _, HD3.out, by simp, (fun q hq => by simp at hq; subst hq; simp; omega), by simp; omega, by omega⟩
  case round =>
    obtain ⟨k, hk, rfl, HI⟩ := hrel
    obtain ⟨t', g, vc, l, hD, hl1, hlk, hl3, htk⟩ := HI.out
    have HD : Hid (Dk w v wr SB ca cn cc t' (v2.heap.size + 1) (some ⟨g, 0, none⟩) vc l 0 0) := hD
    have HLK : Hid (∀ q ∈ l, 1 ≤ q ∧ q ≤ 4 * l.length) := hlk
    clear hD hlk HI
    by_cases hk0 : 0 < k
    · obtain ⟨k', rfl⟩ : ∃ k', k = k' + 1 := ⟨k - 1, by omega⟩
      have hki : (0 : Int) < ((k' + 1 : Nat) : Int) := by omega
      obtain ⟨s, hs⟩ : ∃ s, s = l.getD (l.length - 1) 0 := ⟨_, rfl⟩
      have hsm : s ∈ l := by rw [hs]; exact getD_mem (by omega)
      obtain ⟨s0, s1⟩ := HLK.out s hsm
      have HSM : Hid (s = l.getD (l.length - 1) 0) := hs
      clear hs hsm
      obtain ⟨n, hn⟩ : ∃ n, n + 1 = l.length := ⟨l.length - 1, by omega⟩
      have HNL : Hid (n + 1 = l.length) := hn
      have HS : s = l.getD n 0 := by rw [HSM.out]; congr 1; omega
      have HB := HBA.out
      have hn2 : n ≤ 2 := by omega
      have hLB : v2.heap.size + 1 = v2.heap.size + 1 := rfl
      obtain ⟨LB, hLBe⟩ : ∃ z, z = v2.heap.size + 1 := ⟨_, rfl⟩
      clear hLB
      have HDb : Hid (Dk w v wr SB ca cn cc t' LB (some ⟨g, 0, none⟩) vc l 0 0) := by rw [hLBe]; exact HD.out
      obtain ⟨t0, ht0⟩ : ∃ z, z = t' := ⟨_, rfl⟩
      rw [← ht0] at HDb htk
      have HSn : Hid (s = l.getD n 0) := HS
      have hs4 : s ≤ 4 * (n + 1) := by omega
      have HL1 : Hid (l.length = n + 1) := hn.symm
      clear hn HSM HS HD HNL hl1
      go_wp2
      rw [← hLBe]
      have HLB : Hid (LB = v2.heap.size + 1) := hLBe
      clear hLBe
      refine wp_region_any (by kernel_rfl) ?_
      change wpAny _ _ _ _ _ _ _ (World.drew _)
      refine wpAny_inv (fun L a V => ∃ (b0 b1 b2 b3 b4 b5 b6 b7 b8 b9 b10 b11 b12 b13 b14 b15 b16 b17 : Bool) (x16 x17 x18 x19 x20 x21 x22 x23 x24 x25 x26 x27 x28 x29 x30 x31 x32 : Value), L = #[b0, b1, b2, b3, b4, b5, b6, b7, b8, b9, b10, b11, b12, b13, b14, b15, b16, b17] ∧ a = { tmps := #[.pointer (some ⟨SB, 0, none⟩), undef, .pointer (some ⟨v.heap.size, 0, none⟩), .pointer (some ⟨LB, 0, none⟩), .int .i64 ((k' : Int) + 1), .pointer (some ⟨SB, 0, none⟩), .int .i64 r1, .int .i64 (1 + r1), .slice (some ⟨v2.heap.size, 0, none⟩) 1 1, .agg #[.slice (some ⟨v2.heap.size, 0, none⟩) 1 1, .int .i64 0, .int .i64 0], .pointer (some ⟨SB, 0, none⟩), .int .i64 k2, .int .i64 ((k' : Int) + 1), .bool true, u14, u15, x16, x17, x18, x19, x20, x21, x22, x23, x24, x25, x26, x27, x28, x29, x30, x31, x32, undef, undef, undef, undef, undef, undef, undef, undef, undef, undef, undef, undef, undef, undef], defers := [] } ∧ R5 w v SB ca cn cc t0 LB g vc l s n V b0 b1 b2 b3 b4 b5 b6 b7 b8 b9 b10 b11 b12 b13 b14 b15 b16 b17 x16 x17 x18 x19 x20 x21 x22 x23 x24 x25 x26 x27 x28 x29 x30 x31 x32) ?step ?done _ _ _ _ (by simp) ?start
      case start =>
        refine ⟨false, false, false, false, false, false, false, false, false, false, false, false, false, false, false, false, false, false, _, _, _, _, _, _, _, _, _, _, _, _, _, _, _, _, _, rfl, rfl, ?_⟩
        have hd : Below wr.heap.size wr wr.drew := (Below.refl _ _).drew
        exact { len := HL1.out, m0 := fun _ => HDb.out.step hd, m1 := nofun, m2 := nofun, m3 := nofun, f0 := nofun, f1 := nofun, f2 := nofun, f3 := nofun, f4 := nofun, f5 := nofun, f6 := nofun, f7 := nofun, f8 := nofun, f9 := nofun, f10 := nofun, f11 := nofun, f16 := nofun, f12 := nofun, f13 := nofun, o13 := nofun, o10 := nofun, o9 := nofun, o8 := nofun, o7 := nofun, o6 := nofun, o14 := nofun, o15 := nofun, o17 := nofun }
      case done =>
        rintro L a V ⟨b0, b1, b2, b3, b4, b5, b6, b7, b8, b9, b10, b11, b12, b13, b14, b15, b16, b17, x16, x17, x18, x19, x20, x21, x22, x23, x24, x25, x26, x27, x28, x29, x30, x31, x32, rfl, rfl, H⟩ hr
        have hall := ready_all (by kernel_rfl) hr
        obtain rfl : b17 = true := hall 17 (by decide)
        obtain ⟨g7, cap, k7, hD7, k0, k1⟩ := H.m3 rfl
        have HD7 : Hid (Dk w v V SB ca cn cc (t0 + 1) LB (some ⟨g7, 0, none⟩) cap (l ++ [k7]) 0 0) := hD7
        clear hD7 H hall hr
        obtain rfl : LB = v2.heap.size + 1 := HLB.out
        go_wp2
        go_roundw
        case rel => exact ⟨k', by omega, by go_num, _, _, _, _, HD7.out, by simp, (fun q hq => by rw [List.mem_append] at hq; simp only [List.length_append, List.length_cons, List.length_nil]; have := HL1.out; rcases hq with hq | hq; (have := HLK.out q hq; omega); (simp at hq; omega)), by simp; have := HL1.out; omega, by omega⟩
        case measure => simp [intOf]; try omega
      case step =>
        rintro L a V i ⟨b0, b1, b2, b3, b4, b5, b6, b7, b8, b9, b10, b11, b12, b13, b14, b15, b16, b17, x16, x17, x18, x19, x20, x21, x22, x23, x24, x25, x26, x27, x28, x29, x30, x31, x32, rfl, rfl, H⟩ hi
        have hlt : i < 18 := ready_lt hi
        obtain rfl | rfl | rfl | rfl | rfl | rfl | rfl | rfl | rfl | rfl | rfl | rfl | rfl | rfl | rfl | rfl | rfl | rfl : i = 0 ∨ i = 1 ∨ i = 2 ∨ i = 3 ∨ i = 4 ∨ i = 5 ∨ i = 6 ∨ i = 7 ∨ i = 8 ∨ i = 9 ∨ i = 10 ∨ i = 11 ∨ i = 12 ∨ i = 13 ∨ i = 14 ∨ i = 15 ∨ i = 16 ∨ i = 17 := by omega
        · obtain rfl : b0 = false := ready_new hi
          refine wpOp_run (o := _) rfl (fun K hK => ?_)
          go_simp
          refine hK _ _ ?_
          exact ⟨_, _, _, _, _, _, _, _, _, _, _, _, _, _, _, _, _, _, _, _, _, _, _, _, _, _, _, _, _, _, _, _, _, _, _, rfl, rfl, { H with f0 := fun _ => rfl }⟩
        · obtain rfl : b1 = false := ready_new hi
          obtain rfl : b0 = true := ready_dep (d := 0) hi (by kernel_rfl)
          obtain rfl : b15 = false := by cases h : b15 with | false => rfl | true => exact absurd (H.o15 h).2 (by decide)
          obtain rfl := H.f0 rfl
          have hc : V.cell? ⟨LB, 0, none⟩ = some (.slice (some ⟨g, 0, none⟩) (n + 1) vc) := by
            cases h14 : b14 with
            | false => exact H.len ▸ (H.m0 h14).cells.1
            | true =>
              obtain ⟨U, k, rfl, hD, _⟩ := H.m1 h14 rfl
              exact H.len ▸ (hD.step (below_box _)).cells.1
          refine wpOp_run (o := _) rfl (fun K hK => ?_)
          go_simp
          refine hK _ _ ?_
          exact ⟨_, _, _, _, _, _, _, _, _, _, _, _, _, _, _, _, _, _, _, _, _, _, _, _, _, _, _, _, _, _, _, _, _, _, _, rfl, rfl, { H with f1 := fun _ => rfl, o15 := fun h => (by cases h) }⟩
        · obtain rfl : b2 = false := ready_new hi
          refine wpOp_run (o := _) rfl (fun K hK => ?_)
          go_simp
          refine hK _ _ ?_
          exact ⟨_, _, _, _, _, _, _, _, _, _, _, _, _, _, _, _, _, _, _, _, _, _, _, _, _, _, _, _, _, _, _, _, _, _, _, rfl, rfl, { H with f2 := fun _ => rfl }⟩
        · obtain rfl : b3 = false := ready_new hi
          obtain rfl : b2 = true := ready_dep (d := 2) hi (by kernel_rfl)
          obtain rfl : b14 = false := by cases h : b14 with | false => rfl | true => exact absurd (H.o8 (H.o9 (H.o10 (H.o13 (H.o14 h)).1))).1 (by decide)
          obtain rfl := H.f2 rfl
          have hc : V.cell? ⟨LB, 0, none⟩ = some (.slice (some ⟨g, 0, none⟩) (n + 1) vc) := H.len ▸ (H.m0 rfl).cells.1
          refine wpOp_run (o := _) rfl (fun K hK => ?_)
          go_simp
          refine hK _ _ ?_
          exact ⟨_, _, _, _, _, _, _, _, _, _, _, _, _, _, _, _, _, _, _, _, _, _, _, _, _, _, _, _, _, _, _, _, _, _, _, rfl, rfl, { H with f3 := fun _ => rfl, o8 := fun h => (by have := (H.o8 h).1; cases this) }⟩
        · obtain rfl : b4 = false := ready_new hi
          refine wpOp_run (o := _) rfl (fun K hK => ?_)
          go_simp
          refine hK _ _ ?_
          exact ⟨_, _, _, _, _, _, _, _, _, _, _, _, _, _, _, _, _, _, _, _, _, _, _, _, _, _, _, _, _, _, _, _, _, _, _, rfl, rfl, { H with f4 := fun _ => rfl }⟩
        · obtain rfl : b5 = false := ready_new hi
          obtain rfl : b4 = true := ready_dep (d := 4) hi (by kernel_rfl)
          obtain rfl : b14 = false := by cases h : b14 with | false => rfl | true => exact absurd (H.o6 (H.o7 (H.o8 (H.o9 (H.o10 (H.o13 (H.o14 h)).1))).2)) (by decide)
          obtain rfl := H.f4 rfl
          have hc : V.cell? ⟨LB, 0, none⟩ = some (.slice (some ⟨g, 0, none⟩) (n + 1) vc) := H.len ▸ (H.m0 rfl).cells.1
          refine wpOp_run (o := _) rfl (fun K hK => ?_)
          go_simp
          refine hK _ _ ?_
          exact ⟨_, _, _, _, _, _, _, _, _, _, _, _, _, _, _, _, _, _, _, _, _, _, _, _, _, _, _, _, _, _, _, _, _, _, _, rfl, rfl, { H with f5 := fun _ => rfl, o6 := fun h => (by have := H.o6 h; cases this) }⟩
        · obtain rfl : b6 = false := ready_new hi
          obtain rfl : b5 = true := ready_dep (d := 5) hi (by kernel_rfl)
          obtain rfl := H.f5 rfl
          refine wpOp_run (o := _) rfl (fun K hK => ?_)
          go_simp
          refine hK _ _ ?_
          exact ⟨_, _, _, _, _, _, _, _, _, _, _, _, _, _, _, _, _, _, _, _, _, _, _, _, _, _, _, _, _, _, _, _, _, _, _, rfl, rfl, { H with f6 := fun _ => rfl, o6 := fun _ => rfl, o7 := fun h => (by have := H.o7 h; cases this) }⟩
        · obtain rfl : b7 = false := ready_new hi
          obtain rfl : b6 = true := ready_dep (d := 6) hi (by kernel_rfl)
          obtain rfl := H.f6 rfl
          have wn : IntKind.i64.wrap ((n : Nat) : Int) = (n : Int) := IntWalk.i64_in _ (by omega)
          refine wpOp_run (o := _) rfl (fun K hK => ?_)
          go_simp
          refine hK _ _ ?_
          exact ⟨_, _, _, _, _, _, _, _, _, _, _, _, _, _, _, _, _, _, _, _, _, _, _, _, _, _, _, _, _, _, _, _, _, _, _, rfl, rfl, { H with f7 := fun _ => rfl, o7 := fun _ => rfl, o8 := fun h => (by have := (H.o8 h).2; cases this) }⟩
        · obtain rfl : b8 = false := ready_new hi
          obtain rfl : b3 = true := ready_dep (d := 3) hi (by kernel_rfl)
          obtain rfl : b7 = true := ready_dep (d := 7) hi (by kernel_rfl)
          obtain rfl := H.f3 rfl
          obtain rfl := H.f7 rfl
          have n0 : (0 : Int) ≤ (n : Int) := by omega
          have n1 : (n : Int) < (n : Int) + 1 := by omega
          refine wpOp_run (o := _) rfl (fun K hK => ?_)
          go_simp
          refine hK _ _ ?_
          exact ⟨_, _, _, _, _, _, _, _, _, _, _, _, _, _, _, _, _, _, _, _, _, _, _, _, _, _, _, _, _, _, _, _, _, _, _, rfl, rfl, { H with f8 := fun _ => rfl, o8 := fun _ => ⟨rfl, rfl⟩, o9 := fun h => (by have := H.o9 h; cases this) }⟩
        · obtain rfl : b9 = false := ready_new hi
          obtain rfl : b8 = true := ready_dep (d := 8) hi (by kernel_rfl)
          obtain rfl : b14 = false := by cases h : b14 with | false => rfl | true => exact absurd (H.o10 (H.o13 (H.o14 h)).1) (by decide)
          obtain rfl := H.f8 rfl
          have hc : V.cell? ⟨g, n, none⟩ = some (.int .i64 s) := by
            have := last_at (H.m0 rfl) (by rw [H.len]; omega) (s := s) (by rw [H.len]; exact HSn.out)
            rwa [H.len] at this
          refine wpOp_run (o := _) rfl (fun K hK => ?_)
          go_simp
          refine hK _ _ ?_
          exact ⟨_, _, _, _, _, _, _, _, _, _, _, _, _, _, _, _, _, _, _, _, _, _, _, _, _, _, _, _, _, _, _, _, _, _, _, rfl, rfl, { H with f9 := fun _ => rfl, o9 := fun _ => rfl, o10 := fun h => (by have := H.o10 h; cases this) }⟩
        · obtain rfl : b10 = false := ready_new hi
          obtain rfl : b9 = true := ready_dep (d := 9) hi (by kernel_rfl)
          obtain rfl := H.f9 rfl
          have w1 : IntKind.i64.wrap (s + 1) = s + 1 := IntWalk.i64_in _ (by omega)
          refine wpOp_run (o := _) rfl (fun K hK => ?_)
          go_simp
          refine hK _ _ ?_
          exact ⟨_, _, _, _, _, _, _, _, _, _, _, _, _, _, _, _, _, _, _, _, _, _, _, _, _, _, _, _, _, _, _, _, _, _, _, rfl, rfl, { H with f10 := fun _ => rfl, o10 := fun _ => rfl, o13 := fun h => (by have := (H.o13 h).1; cases this) }⟩
        · obtain rfl : b11 = false := ready_new hi
          refine wpOp_run (o := _) rfl (fun K hK => ?_)
          go_simp
          refine hK _ _ ?_
          exact ⟨_, _, _, _, _, _, _, _, _, _, _, _, _, _, _, _, _, _, _, _, _, _, _, _, _, _, _, _, _, _, _, _, _, _, _, rfl, rfl, { H with f11 := fun _ => rfl }⟩
        · obtain rfl : b12 = false := ready_new hi
          obtain rfl : b11 = true := ready_dep (d := 11) hi (by kernel_rfl)
          obtain rfl : b14 = false := by cases h : b14 with | false => rfl | true => exact absurd (H.o13 (H.o14 h)).2 (by decide)
          obtain rfl := H.f11 rfl
          have hN := l1Next_any SB cn cc (t0 + 0) ca l0 2 w V (by omega) (by omega) hcn HB (H.m0 rfl).src
          refine wpOp_run (o := _) rfl (fun K hK => ?_)
          go_simp
          go_at_call 17
          refine hN.mono ?_
          rintro e v5 ⟨r, rfl, ⟨r0, r1⟩, hS, hc⟩
          have r2 : r < 2 := r1 (by omega)
          have hD := (H.m0 rfl).draw hS hc
          go_simp
          refine hK _ _ ?_
          exact ⟨_, _, _, _, _, _, _, _, _, _, _, _, _, _, _, _, _, _, _, _, _, _, _, _, _, _, _, _, _, _, _, _, _, _, _, rfl, rfl, { H with m0 := fun _ => hD, m1 := fun h => (by cases h), m2 := fun h => (by have := (H.o15 h).1; cases this), m3 := fun h => (by have := (H.o15 (H.o17 h)).1; cases this), f12 := fun _ => ⟨r, rfl, r0, r2⟩, o13 := fun h => (by have := (H.o13 h).2; cases this) }⟩
        · obtain rfl : b13 = false := ready_new hi
          obtain rfl : b10 = true := ready_dep (d := 10) hi (by kernel_rfl)
          obtain rfl : b12 = true := ready_dep (d := 12) hi (by kernel_rfl)
          obtain rfl := H.f10 rfl
          obtain ⟨r, e28, r0, r1⟩ := H.f12 rfl
          subst e28
          have w2 : IntKind.i64.wrap (s + 1 + r) = s + 1 + r := IntWalk.i64_in _ (by omega)
          refine wpOp_run (o := _) rfl (fun K hK => ?_)
          go_simp
          refine hK _ _ ?_
          exact ⟨_, _, _, _, _, _, _, _, _, _, _, _, _, _, _, _, _, _, _, _, _, _, _, _, _, _, _, _, _, _, _, _, _, _, _, rfl, rfl, { H with f13 := fun _ => ⟨s + 1 + r, rfl, by omega, by omega⟩, o13 := fun _ => ⟨rfl, rfl⟩, o14 := fun h => (by have := H.o14 h; cases this) }⟩
        · obtain rfl : b14 = false := ready_new hi
          obtain rfl : b13 = true := ready_dep (d := 13) hi (by kernel_rfl)
          obtain rfl : b12 = true := (H.o13 rfl).2
          obtain rfl : b15 = false := by cases h : b15 with | false => rfl | true => exact absurd (H.o15 h).1 (by decide)
          obtain rfl : b17 = false := by cases h : b17 with | false => rfl | true => exact absurd (H.o17 h) (by decide)
          obtain ⟨k, e29, k0, k1⟩ := H.f13 rfl
          subst e29
          have hD := H.m0 rfl
          refine wpOp_run (o := _) rfl (fun K hK => ?_)
          go_simp
          refine hK _ _ ?_
          exact ⟨_, _, _, _, _, _, _, _, _, _, _, _, _, _, _, _, _, _, _, _, _, _, _, _, _, _, _, _, _, _, _, _, _, _, _, rfl, rfl, { H with m0 := fun h => (by cases h), m1 := fun _ _ => ⟨V, k, rfl, hD, rfl, k0, k1⟩, m2 := fun h => (by cases h), m3 := fun h => (by cases h), o14 := fun _ => rfl, o15 := fun h => (by cases h) }⟩
        · obtain rfl : b15 = false := ready_new hi
          obtain rfl : b1 = true := ready_dep (d := 1) hi (by kernel_rfl)
          obtain rfl : b14 = true := ready_dep (d := 14) hi (by kernel_rfl)
          obtain rfl : b17 = false := by cases h : b17 with | false => rfl | true => exact absurd (H.o17 h) (by decide)
          obtain rfl := H.f1 rfl
          obtain ⟨U, k, rfl, hD, e30, k0, k1⟩ := H.m1 rfl rfl
          subst e30
          obtain ⟨g7, cap, w7, hrun, ⟨c7, d7⟩, HD7⟩ := hD.more (k := k) (by rw [H.len]; omega)
          rw [H.len] at hrun c7 HD7
          refine wpOp_run (o := _) rfl (fun K hK => ?_)
          refine step_append_run (by rfl) _ _ _ (by rfl) (by rfl) (by rfl) hrun ?_
          refine hK _ _ ?_
          exact ⟨_, _, _, _, _, _, _, _, _, _, _, _, _, _, _, _, _, _, _, _, _, _, _, _, _, _, _, _, _, _, _, _, _, _, _, rfl, rfl, { H with m0 := fun h => (by have := h; cases this), m1 := fun _ h => (by cases h), m2 := fun _ _ => ⟨g7, cap, k, rfl, c7, d7, HD7.out, k0, k1⟩, m3 := fun h => (by cases h), o15 := fun _ => ⟨rfl, rfl⟩, o17 := fun h => (by cases h) }⟩
        · obtain rfl : b16 = false := ready_new hi
          refine wpOp_run (o := _) rfl (fun K hK => ?_)
          go_simp
          refine hK _ _ ?_
          exact ⟨_, _, _, _, _, _, _, _, _, _, _, _, _, _, _, _, _, _, _, _, _, _, _, _, _, _, _, _, _, _, _, _, _, _, _, rfl, rfl, { H with f16 := fun _ => rfl }⟩
        · obtain rfl : b17 = false := ready_new hi
          obtain rfl : b15 = true := ready_dep (d := 15) hi (by kernel_rfl)
          obtain rfl : b16 = true := ready_dep (d := 16) hi (by kernel_rfl)
          obtain rfl : b14 = true := (H.o15 rfl).1
          obtain rfl := H.f16 rfl
          obtain ⟨g7, cap, k, e31, c7, d7, hD, k0, k1⟩ := H.m2 rfl rfl
          subst e31
          refine wpOp_run (o := _) rfl (fun K hK => ?_)
          go_simp
          refine hK _ _ ?_
          exact ⟨_, _, _, _, _, _, _, _, _, _, _, _, _, _, _, _, _, _, _, _, _, _, _, _, _, _, _, _, _, _, _, _, _, _, _, rfl, rfl, { H with m0 := fun h => (by cases h), m1 := fun _ h => (by cases h), m2 := fun _ h => (by cases h), m3 := fun _ => ⟨g7, cap, k, hD, k0, k1⟩, o17 := fun _ => rfl }⟩
    · have hki : ¬ (0 : Int) < (k : Int) := by omega
      obtain rfl : k = 0 := by omega
      have hN := l1Next_any SB cn cc t' ca l0 l.length w wr (by omega) (by omega) hcn HBA.out HD.out.src
      obtain ⟨n, hn⟩ : ∃ n, n = l.length := ⟨_, rfl⟩
      have HNL : Hid (n = l.length) := hn
      have c0 := HD.out.cells.1
      rw [← hn] at hN c0 hl1 hl3
      clear hn
      go_wp2_with (first
        | (go_at_call 17; have hq := hN; clear hN; (with_reducible refine hq.mono ?_); clear hq; rintro e v4 ⟨r4, rfl, ⟨a4, b4⟩, hS4, hc4⟩; have b4' : r4 < n := b4 (by omega); clear b4; have hw4 := IntWalk.i64_in (1 + r4) (by omega); have HD4 : Hid (Dk w v v4 SB ca cn cc (t' + 1) (v2.heap.size + 1) (some ⟨g, 0, none⟩) vc l 0 0) := HD.out.draw hS4 hc4; have HD5 : Hid (Dk w v (v4.setCell ⟨v2.heap.size + 1, 1, none⟩ (.int .i64 (1 + r4))) SB ca cn cc (t' + 1) (v2.heap.size + 1) (some ⟨g, 0, none⟩) vc l (1 + r4) 0) := HD4.out.setk (i := 1) rfl; have e1 := HD4.out.cells.2.1; have g1 := HD4.out.fz 1; have hM := l1Next_any SB cn cc (t' + 1) ca l0 9 w (v4.setCell ⟨v2.heap.size + 1, 1, none⟩ (.int .i64 (1 + r4))) (by omega) (by omega) hcn HBA.out HD5.out.src; clear hS4 hc4)
        | (go_at_call 17; have hq := hM; clear hM; (with_reducible refine hq.mono ?_); clear hq; rintro e v5 ⟨r5, rfl, ⟨a5, b5⟩, hS5, hc5⟩; have b5' : r5 < 9 := b5 (by omega); clear b5; have HD6 : Hid (Dk w v v5 SB ca cn cc (t' + 1 + 1) (v2.heap.size + 1) (some ⟨g, 0, none⟩) vc l (1 + r4) 0) := HD5.out.draw hS5 hc5; have hD7 := HD6.out.step (below_box (.cells #[.int .i64 0, .int .i64 0, .int .i64 0, .int .i64 r5] 2)); have HO5 : Hid (SB < v5.heap.size) := HD6.out.src.lt; have hP := l1Pick_any SB cn cc (t' + 1 + 1) 4 4 ca (some ⟨v5.heap.size, 0, none⟩) l0 [0, 0, 0, r5] w (v5.alloc (.cells #[.int .i64 0, .int .i64 0, .int .i64 0, .int .i64 r5] 2)) (by omega) (by omega) (by omega) hcn HBA.out hD7.src (iatK4 v5 0 0 0 r5) (fun b off e => (by cases e; have := HO5.out; omega)); clear hS5 hc5)
        | (go_at_call 18; have hq := hP; clear hP; (with_reducible refine hq.mono ?_); clear hq; rintro e v6 ⟨z, rfl, hz, hS6, hc6⟩; have HZ : Hid (0 ≤ z ∧ z ≤ 9) := (by simp at hz; rcases hz with rfl | rfl <;> first | (exact ⟨by omega, by omega⟩)); have HD8 : Hid (Dk w v v6 SB ca cn cc (t' + 1 + 1 + 1) (v2.heap.size + 1) (some ⟨g, 0, none⟩) vc l (1 + r4) 0) := hD7.draw hS6 hc6; have e2 := HD8.out.cells.2.2; have g2 := HD8.out.fz 2; have HD9 : Hid (Dk w v (v6.setCell ⟨v2.heap.size + 1, 2, none⟩ (.int .i64 z)) SB ca cn cc (t' + 1 + 1 + 1) (v2.heap.size + 1) (some ⟨g, 0, none⟩) vc l (1 + r4) z) := HD8.out.setk (i := 2) rfl; have x0 := HD9.out.cells.1; have x1 := HD9.out.cells.2.1; have x2 := HD9.out.cells.2.2; rw [← HNL.out] at x0; obtain ⟨y0, y1, y2⟩ := cells3 HD9.out.res; have z0 := Joins.unfrozen_of_block HD9.out.res 0; have z1 := Joins.unfrozen_of_block HD9.out.res 1; have z2 := Joins.unfrozen_of_block HD9.out.res 2; clear hS6 hc6 hz hD7))
      obtain ⟨j0, j1, j2⟩ := three_set HD9.out.res (.slice (some ⟨g, 0, none⟩) n vc) (.int .i64 (1 + r4)) (.int .i64 z)
      have hzz := HZ.out
      have hE := HD9.out.ret (T := t + 7) (K := KR) (by omega) ⟨by rw [← HNL.out]; omega, fun q hq => by have := HLK.out q hq; rw [← HNL.out] at this; omega, by omega, by omega⟩ rfl (.slice (some ⟨g, 0, none⟩) n vc) (.int .i64 (1 + r4)) (.int .i64 z)
      rw [← HNL.out] at hE
      exact bodyPost_ret (v := .agg #[.slice (some ⟨g, 0, none⟩) n vc, .int .i64 (1 + r4), .int .i64 z]) (by simp [results, Try.results34, go_sem, j0, j1, j2]) rfl hE

end Go.Proofs.Ytgfhnmjpkanikaa
