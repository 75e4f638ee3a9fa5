/- Transactions that are drawn: whatever the bytes, some transaction, its ins and outs in memory of their own. -/
import Derived.Test.YtciefdphjkjikaaGreatDoorJn4
import Derived.Test.YtciefdphjkjikaaGreatDoorEd
import Derived.Test.YtciefdphjkjikaaGreatDoorJn1
import Derived.Test.YtciefdphjkjikaaGreatDoorJn2
import Derived.Test.YtciefdphjkjikaaGreatDoorJn3
import Derived.Lib.QuietBelow
import Derived.Maps.OwnSet
import Derived.Test.YtciefdphjkjikaaGreatDoorBg
import Derived.Test.YtciefdphjkjikaaGreatDoorBi
namespace Go.Proofs.YtciefdphjkjikaaGreatDoor
open Go.RowKit Go.Shelf Go.Maps Go.WideMaps

theorem row_neT {V : World} {base n LB sz : Nat} {e : TypeId} {u : Value} {xs : List Value} {cs : Array Value} {fz : Nat × Nat} (he : e ≠ 28) (hr : V.ownsRow base e sz u n xs) (hb : V.heap[LB]? = some (.cells cs 28 fz)) : ∀ b, u.ownBlock = some b → b ≠ LB := by
  intro b hbb e0
  subst e0
  rcases hr.2 with ⟨e1, _⟩ | ⟨g, cap, cur, e1, _, h2, _⟩
  · rw [e1] at hbb; cases hbb
  · rw [e1] at hbb
    have e2 : g = b := by simpa [Value.ownBlock] using hbb
    subst e2
    rw [h2] at hb
    have := Option.some.inj hb
    injection this with _ e3
    exact absurd e3 he
theorem OOwn.turn {V W : World} {lo hi n : Nat} {u : Value} {f : Nat → Ou} {kv : Nat → Value} {row : Option Nat} (h : OOwn V lo hi u n f kv) (hg : V.grownBy W row) (h0 : ∀ b, u.ownBlock = some b → row ≠ some b) (h1 : ∀ j, j < n → ∀ b, (kv j).ownBlock = some b → row ≠ some b) : OOwn W lo hi u n f kv := by
  obtain ⟨xs, q1, q2⟩ := h.row
  refine ⟨⟨xs, q1.kept hg ?_, q2⟩, h.top, fun j hj => ⟨(h.keys j hj).1.kept hg ?_, (h.keys j hj).2⟩, h.apart⟩
  · cases e : u.ownBlock with
    | none => exact .inl rfl
    | some b => exact .inr fun e2 => h0 b e e2.symm
  · cases e : (kv j).ownBlock with
    | none => exact .inl rfl
    | some b => exact .inr fun e2 => h1 j hj b e e2.symm
theorem setT_oown {V : World} {lo hi n T i : Nat} {u z : Value} {f : Nat → Ou} {kv : Nat → Value} {cs : Array Value} {fz : Nat × Nat} (h : OOwn V lo hi u n f kv) (hb : V.heap[T]? = some (.cells cs 28 fz)) : OOwn (V.setCell ⟨T, i, none⟩ z) lo hi u n f kv := by
  obtain ⟨xs, q1, _⟩ := h.row
  exact h.turn (grownBy_setCell V ⟨T, i, none⟩ z) (fun b e e2 => row_neT (by decide) q1 hb b e (Option.some.inj e2).symm) (fun j hj b e e2 => row_neT (by decide) (h.keys j hj).1 hb b e (Option.some.inj e2).symm)

/-- A transaction whose ins and outs lie in memory that was laid since v. -/
structure OwT (w v V : World) (SB : Nat) (ca : Option Addr) (cn cc t : Nat) (ia : Option Addr) (ic : Nat) (rs : List (Int × Int)) (oa : Option Addr) (oc : Nat) (os : List Ou) : Prop where
  src : Src w V SB ca cn cc t
  chg : Chg v V SB (SB + 1)
  ref : V.ownsRow v.heap.size 65 2 (.slice ia rs.length ic) rs.length (gcells rs)
  out : ∃ kv, OOwn V v.heap.size V.heap.size (.slice oa os.length oc) os.length (fun j => os.getD j O0) kv
  ord : SB < v.heap.size
/-- The block T of one under way, the result's block behind what was there. -/
structure TqB (w v V : World) (SB : Nat) (ca : Option Addr) (cn cc t T : Nat) (k f : Int) (u2 u3 : Value) : Prop where
  box : V.heap[T]? = some (.cells #[.int .i64 k, .int .i64 f, u2, u3] 28 (0, 0))
  res : V.heap[v.heap.size]? = some (.cells #[.int .i64 0, .int .i64 0, .slice none 0 0, .slice none 0 0] 28 (0, 0))
  src : Src w V SB ca cn cc t
  chg : Chg v V SB (SB + 1)
  ord : SB < v.heap.size ∧ v.heap.size < T
/-- One under way, its ins and outs in memory of their own. -/
structure TqD (w v V : World) (SB : Nat) (ca : Option Addr) (cn cc t T : Nat) (k f : Int) (ia : Option Addr) (ic : Nat) (rs : List (Int × Int)) (oa : Option Addr) (oc : Nat) (os : List Ou) : Prop where
  b : TqB w v V SB ca cn cc t T k f (.slice ia rs.length ic) (.slice oa os.length oc)
  ref : V.ownsRow (v.heap.size + 1) 65 2 (.slice ia rs.length ic) rs.length (gcells rs)
  out : ∃ kv, OOwn V (v.heap.size + 1) V.heap.size (.slice oa os.length oc) os.length (fun j => os.getD j O0) kv
section
variable {w v V V' : World} {SB : Nat} {ca : Option Addr} {cn cc t t' T : Nat} {k f k' f' : Int} {ia ia' : Option Addr} {ic ic' : Nat} {rs rs' : List (Int × Int)} {oa oa' : Option Addr} {oc oc' : Nat} {os os' : List Ou} {u2 u3 u2' u3' : Value}
theorem OwT.draw (H : OwT w v V SB ca cn cc t ia ic rs oa oc os) (hS : Src w V' SB ca cn cc t') (hc : Chg V V' SB (SB + 1)) : OwT w v V' SB ca cn cc t' ia ic rs oa oc os := by
  obtain ⟨kv, hk⟩ := H.out
  exact ⟨hS, H.chg.trans hc, hc.row1 H.ref H.ord, ⟨kv, (hk.chg hc (.inr H.ord)).up hc.size⟩, H.ord⟩
theorem OwT.step (H : OwT w v V SB ca cn cc t ia ic rs oa oc os) (hb : Below V.heap.size V V') : OwT w v V' SB ca cn cc t ia ic rs oa oc os := H.draw (H.src.step hb) (Chg.of_below hb _ _)
theorem OwT.at (H : OwT w v V SB ca cn cc t ia ic rs oa oc os) (hk : ∀ o ∈ os, o.l.length ≤ 4) : TxAt V ia rs.length oa os.length rs os := by
  obtain ⟨kv, h⟩ := H.out
  constructor
  · by_cases hn : rs.length = 0
    · exact ⟨rfl, .inl hn⟩
    obtain ⟨g, cap, e⟩ := Joins.ownsRow_form H.ref (by omega)
    have hr := H.ref
    cases e
    exact GAt.owned hr rfl
  · by_cases hn : os.length = 0
    · exact ⟨rfl, .inl hn⟩
    obtain ⟨xs, h1, _⟩ := h.row
    obtain ⟨g, cap, e⟩ := Joins.ownsRow_form h1 (by omega)
    cases e
    exact h.at rfl fun j hj => by have := hk _ (getD_mem (d := O0) hj); omega
theorem TqB.lt (H : TqB w v V SB ca cn cc t T k f u2 u3) : T < V.heap.size := lt_of_block H.box
theorem TqB.draw (H : TqB w v V SB ca cn cc t T k f u2 u3) (hS : Src w V' SB ca cn cc t') (hc : Chg V V' SB (SB + 1)) : TqB w v V' SB ca cn cc t' T k f u2 u3 := by
  have := H.ord
  exact ⟨hc.keep1 H.box (by omega), hc.keep1 H.res (by omega), hS, H.chg.trans hc, H.ord⟩
theorem TqB.put {i : Nat} {u : Value} (H : TqB w v V SB ca cn cc t T k f u2 u3) (hq : (#[.int .i64 k, .int .i64 f, u2, u3] : Array Value).setIfInBounds i u = #[.int .i64 k', .int .i64 f', u2', u3']) : TqB w v (V.setCell ⟨T, i, none⟩ u) SB ca cn cc t T k' f' u2' u3' := by
  have hod := H.ord
  have hb := Joins.block_setCell (i := i) H.box u
  rw [hq] at hb
  refine ⟨hb, (Below.heap_setCell _ ⟨T, i, none⟩ _ v.heap.size (show v.heap.size ≠ T by omega)).trans H.res, ?_, H.chg.setNew (by omega) _, hod⟩
  exact ⟨(Below.heap_setCell _ ⟨T, i, none⟩ _ SB (show SB ≠ T by omega)).trans H.src.box, H.src.bel.setCell (p := ⟨T, i, none⟩) (show w.heap.size ≤ T by have := H.src.sb; omega) _, H.src.sb⟩
/-- What grew leaves it as it is, where the row that grew is none of the two blocks. -/
theorem TqB.grow {e : TypeId} {sz n : Nat} {u : Value} {xs : List Value} (H : TqB w v V SB ca cn cc t T k f u2 u3) (hg : V.grownBy V' u.ownBlock) (hr : V.ownsRow (v.heap.size + 1) e sz u n xs) (he : e ≠ 28) : TqB w v V' SB ca cn cc t T k f u2 u3 := by
  have hod := H.ord
  have hsz := H.chg.size
  have hT := H.lt
  have hS := H.src.lt
  refine ⟨(hg.block T hT (fun e2 => row_neT he hr H.box _ e2.symm rfl)).trans H.box, (hg.block _ (lt_of_block H.res) (fun e2 => row_neT he hr H.res _ e2.symm rfl)).trans H.res, ⟨(hg.block SB hS (fun e2 => by have := (hr.lt SB e2.symm).1; omega)).trans H.src.box, H.src.bel.grown hg (by have := H.src.bel.size; omega) (fun k hk => by have := (hr.lt k hk).1; have := H.src.sb; omega), H.src.sb⟩, ?_, hod⟩
  exact ⟨hg.os.trans H.chg.os, hg.tape.trans H.chg.tape, hg.output.trans H.chg.output, Nat.le_trans H.chg.size hg.size, fun b hb hd => (hg.block b (by omega) (fun e2 => by have := (hr.lt b e2.symm).1; omega)).trans (H.chg.block b hb hd)⟩
theorem TqD.lt (H : TqD w v V SB ca cn cc t T k f ia ic rs oa oc os) : T < V.heap.size := H.b.lt
theorem TqD.draw (H : TqD w v V SB ca cn cc t T k f ia ic rs oa oc os) (hS : Src w V' SB ca cn cc t') (hc : Chg V V' SB (SB + 1)) : TqD w v V' SB ca cn cc t' T k f ia ic rs oa oc os := by
  obtain ⟨kv, hk⟩ := H.out
  have := H.b.ord
  exact ⟨H.b.draw hS hc, hc.row1 H.ref (by omega), ⟨kv, (hk.chg hc (.inr (by omega))).up hc.size⟩⟩
theorem TqD.step (H : TqD w v V SB ca cn cc t T k f ia ic rs oa oc os) (hb : Below V.heap.size V V') : TqD w v V' SB ca cn cc t T k f ia ic rs oa oc os := H.draw (H.b.src.step hb) (Chg.of_below hb _ _)
theorem TqD.cells (H : TqD w v V SB ca cn cc t T k f ia ic rs oa oc os) : V.cell? ⟨T, 0, none⟩ = some (.int .i64 k) ∧ V.cell? ⟨T, 1, none⟩ = some (.int .i64 f) ∧ V.cell? ⟨T, 2, none⟩ = some (.slice ia rs.length ic) ∧ V.cell? ⟨T, 3, none⟩ = some (.slice oa os.length oc) := by
  obtain ⟨p0, p1, p2, p3, _⟩ := cells4 H.b.box
  exact ⟨p0, p1, p2, p3⟩
theorem TqD.fz (H : TqD w v V SB ca cn cc t T k f ia ic rs oa oc os) (i : Nat) : V.frozen? ⟨T, i, none⟩ = false := Joins.unfrozen_of_block H.b.box i
/-- The transaction is laid into a block of its own. -/
theorem TqD.first (H : OwT w (v.alloc (.cells #[.int .i64 0, .int .i64 0, .slice none 0 0, .slice none 0 0] 28)) V SB ca cn cc t ia ic rs oa oc os) (hl : SB < v.heap.size) :
    TqD w v (V.alloc (.cells #[.int .i64 k, .int .i64 f, .slice ia rs.length ic, .slice oa os.length oc] 28)) SB ca cn cc t V.heap.size k f ia ic rs oa oc os := by
  have hz : (v.alloc (.cells #[.int .i64 0, .int .i64 0, .slice none 0 0, .slice none 0 0] 28)).heap.size = v.heap.size + 1 := by simp
  have h1 : V.heap[v.heap.size]? = some (.cells #[.int .i64 0, .int .i64 0, .slice none 0 0, .slice none 0 0] 28 (0, 0)) := H.chg.keep1 (heap_alloc_new _ _) (by omega)
  obtain ⟨kv, hk⟩ := H.out
  rw [hz] at hk
  have hr := H.ref
  rw [hz] at hr
  exact ⟨⟨heap_alloc_new _ _, (keepb h1 (below_box _)).out, H.src.step (below_box _), ((Chg.of_below (below_box _) _ _).trans H.chg).trans (Chg.of_below (below_box _) _ _), hl, lt_of_block h1⟩, hr.alloc _, ⟨kv, (hk.below (below_box _)).up (by simp)⟩⟩
/-- A cell of it is set; what it then leads to lies in the same world. -/
theorem TqD.put {i : Nat} {u : Value} (H : TqB w v V SB ca cn cc t T k f u2 u3) (hr : V.ownsRow (v.heap.size + 1) 65 2 (.slice ia' rs'.length ic') rs'.length (gcells rs')) (ho : ∃ kv, OOwn V (v.heap.size + 1) V.heap.size (.slice oa' os'.length oc') os'.length (fun j => os'.getD j O0) kv)
    (hq : (#[.int .i64 k, .int .i64 f, u2, u3] : Array Value).setIfInBounds i u = #[.int .i64 k', .int .i64 f', .slice ia' rs'.length ic', .slice oa' os'.length oc']) : TqD w v (V.setCell ⟨T, i, none⟩ u) SB ca cn cc t T k' f' ia' ic' rs' oa' oc' os' := by
  obtain ⟨kv, hk⟩ := ho
  exact ⟨H.put hq, ownsRow_setCell_other hr (a := ⟨T, i, none⟩) (fun e => row_neT (by decide) hr H.box _ e rfl) _, ⟨kv, by simpa using setT_oown (i := i) (z := u) hk H.box⟩⟩
theorem TqD.setk (H : TqD w v V SB ca cn cc t T k f ia ic rs oa oc os) (k' : Int) : TqD w v (V.setCell ⟨T, 0, none⟩ (.int .i64 k')) SB ca cn cc t T k' f ia ic rs oa oc os := TqD.put H.b H.ref H.out (by simp)
theorem TqD.setf (H : TqD w v V SB ca cn cc t T k f ia ic rs oa oc os) (f' : Int) : TqD w v (V.setCell ⟨T, 1, none⟩ (.int .i64 f')) SB ca cn cc t T k f' ia ic rs oa oc os := TqD.put H.b H.ref H.out (by simp)
theorem TqD.setR (H : TqD w v V SB ca cn cc t T k f ia ic rs oa oc os) (hr : V.ownsRow (v.heap.size + 1) 65 2 (.slice ia' rs'.length ic') rs'.length (gcells rs')) : TqD w v (V.setCell ⟨T, 2, none⟩ (.slice ia' rs'.length ic')) SB ca cn cc t T k f ia' ic' rs' oa oc os := TqD.put H.b hr H.out (by simp)
theorem TqD.setO (H : TqD w v V SB ca cn cc t T k f ia ic rs oa oc os) (ho : ∃ kv, OOwn V (v.heap.size + 1) V.heap.size (.slice oa' os'.length oc') os'.length (fun j => os'.getD j O0) kv) : TqD w v (V.setCell ⟨T, 3, none⟩ (.slice oa' os'.length oc')) SB ca cn cc t T k f ia ic rs oa' oc' os' := TqD.put H.b H.ref ho (by simp)
/-- An in more. -/
theorem TqD.moreR (H : TqD w v V SB ca cn cc t T k f ia ic rs oa oc os) (p q : Int) (hl : rs.length ≤ 500) :
    ∃ g cap w5, (Builtin.append_ #[25, 25] 25 #[.slice ia rs.length ic, .slice (some ⟨V.heap.size, 0, none⟩) 1 1]).run Tryz.prog (V.alloc (.cells #[.int .i64 p, .int .i64 q] 65)) = .ok (.slice (some ⟨g, 0, none⟩) (rs.length + 1) cap) w5 ∧
      (w5.cell? ⟨T, 2, none⟩ = some (.slice ia rs.length ic) ∧ w5.frozen? ⟨T, 2, none⟩ = false) ∧ Hid (TqD w v (w5.setCell ⟨T, 2, none⟩ (.slice (some ⟨g, 0, none⟩) (rs.length + 1) cap)) SB ca cn cc t T k f (some ⟨g, 0, none⟩) cap (rs ++ [(p, q)]) oa oc os) := by
  have H1 := H.step (below_box (.cells #[.int .i64 p, .int .i64 q] 65))
  have hvs := H1.b.chg.size
  obtain ⟨g, cap, w5, hrun, HG⟩ := ref_added (p := p) (q := q) (X := V.heap.size) H1.ref (heap_alloc_new _ _) (by omega) (by have := H.b.chg.size; simp; omega)
  obtain ⟨hown, hgr⟩ := HG.out
  have HB := H1.b.grow hgr H1.ref (by decide)
  obtain ⟨_, _, c2, _⟩ := cells4 HB.box
  have hlen : (rs ++ [(p, q)]).length = rs.length + 1 := by simp
  obtain ⟨kv, hk⟩ := H1.out
  obtain ⟨xs, q1, _⟩ := hk.row
  refine ⟨g, cap, w5, hrun, ⟨c2, Joins.unfrozen_of_block HB.box 2⟩, ?_⟩
  rw [← hlen] at hown ⊢
  exact (TqD.put HB hown ⟨kv, (hk.turn hgr (fun b hb e => rows_apart (by decide) H1.ref q1 b e hb) (fun j hj b hb e => rows_apart (by decide) H1.ref (hk.keys j hj).1 b e hb)).up hgr.size⟩ (by simp))
/-- An out more, its keys drawn since V0. -/
theorem TqD.moreO {V0 : World} {t0 kc : Nat} {x y : Int} {l : List Int} {ka : Option Addr} (H0 : TqD w v V0 SB ca cn cc t0 T k f ia ic rs oa oc os) (hS : Src w V SB ca cn cc t) (hc : Chg V0 V SB (SB + 1)) (hr : V.ownsRow V0.heap.size 2 1 (.slice ka l.length kc) l.length (ints l)) (r : Int) (hl : os.length ≤ 500) :
    ∃ g cap w5, (Builtin.append_ #[26, 26] 26 #[.slice oa os.length oc, .slice (some ⟨V.heap.size, 0, none⟩) 1 1]).run Tryz.prog (V.alloc (.cells #[.int .i64 r, .slice ka l.length kc, .int .i64 x, .int .i64 y] 44)) = .ok (.slice (some ⟨g, 0, none⟩) (os.length + 1) cap) w5 ∧
      (w5.cell? ⟨T, 3, none⟩ = some (.slice oa os.length oc) ∧ w5.frozen? ⟨T, 3, none⟩ = false) ∧ Hid (TqD w v (w5.setCell ⟨T, 3, none⟩ (.slice (some ⟨g, 0, none⟩) (os.length + 1) cap)) SB ca cn cc t T k f ia ic rs (some ⟨g, 0, none⟩) cap (os ++ [⟨r, l, x, y⟩])) := by
  have hvs := H0.b.chg.size
  obtain ⟨kv, hk0⟩ := H0.out
  have H1 := (H0.draw hS hc).step (below_box (.cells #[.int .i64 r, .slice ka l.length kc, .int .i64 x, .int .i64 y] 44))
  have hk := ((hk0.chg hc (.inr (by have := H0.b.ord; omega))).below (below_box (.cells #[.int .i64 r, .slice ka l.length kc, .int .i64 x, .int .i64 y] 44)))
  have hsz : V0.heap.size ≤ (V.alloc (.cells #[.int .i64 r, .slice ka l.length kc, .int .i64 x, .int .i64 y] 44)).heap.size := Nat.le_trans hc.size (by simp)
  have hVv : v.heap.size + 1 ≤ V0.heap.size := by have := H0.b.ord; have := H0.lt; omega
  obtain ⟨g, cap, w5, hrun, HG⟩ := out_added (f := fun i => (os ++ [(⟨r, l, x, y⟩ : Ou)]).getD i O0) (o := ⟨r, l, x, y⟩) ((hk.up hsz).ext (fun j hj => by
    rw [List.getD, List.getD, List.getElem?_append_left hj])) (heap_alloc_new _ _) rfl (Joins.ownsRow_le (hr.alloc _) hVv) (fun i hi' b hb e => by
      have h1 := (hk0.keys i hi').2 b hb
      have h2 := (hr.lt b e).1
      omega) (by omega) (by omega) (by simp [List.getD])
  obtain ⟨hO, hgr⟩ := HG.out
  obtain ⟨xs, q1, _⟩ := hk.row
  have HB := H1.b.grow hgr q1 (by decide)
  obtain ⟨_, _, _, c3, _⟩ := cells4 HB.box
  have hlen : (os ++ [(⟨r, l, x, y⟩ : Ou)]).length = os.length + 1 := by simp
  refine ⟨g, cap, w5, hrun, ⟨c3, Joins.unfrozen_of_block HB.box 3⟩, ?_⟩
  rw [← hlen] at hO ⊢
  refine TqD.put HB (H1.ref.kept hgr ?_) ⟨_, hO⟩ (by simp)
  cases e : Value.ownBlock (.slice ia rs.length ic) with
  | none => exact .inl rfl
  | some b => exact .inr fun e2 => rows_apart (by decide) q1 H1.ref b e2.symm e
end

/-- A transaction that was drawn. -/
def OutT (w v : World) (SB : Nat) (ca : Option Addr) (cn cc N : Nat) (e : Ending) (v' : World) (K : Int → Int → List (Int × Int) → List Ou → Prop) : Prop :=
  ∃ (k f : Int) (ia : Option Addr) (ic : Nat) (rs : List (Int × Int)) (oa : Option Addr) (oc : Nat) (os : List Ou) (t' : Nat), e = .returned (.agg #[.int .i64 k, .int .i64 f, .slice ia rs.length ic, .slice oa os.length oc]) ∧ t' ≤ N ∧ Hid (K k f rs os) ∧ Hid (OwT w v v' SB ca cn cc t' ia ic rs oa oc os)
theorem TqD.ret {w v V : World} {SB : Nat} {ca : Option Addr} {cn cc t T N : Nat} {k f : Int} {ia : Option Addr} {ic : Nat} {rs : List (Int × Int)} {oa : Option Addr} {oc : Nat} {os : List Ou} (H : TqD w v V SB ca cn cc t T k f ia ic rs oa oc os) (hN : t ≤ N) {K : Int → Int → List (Int × Int) → List Ou → Prop} (hK : K k f rs os) {e : Ending} (he : e = .returned (.agg #[.int .i64 k, .int .i64 f, .slice ia rs.length ic, .slice oa os.length oc])) (v0 v1 v2 v3 : Value) :
    OutT w v SB ca cn cc N e ((((V.setCell ⟨v.heap.size, 0, none⟩ v0).setCell ⟨v.heap.size, 1, none⟩ v1).setCell ⟨v.heap.size, 2, none⟩ v2).setCell ⟨v.heap.size, 3, none⟩ v3) K := by
  have ho := H.b.ord
  have hsb := H.b.src.sb
  obtain ⟨kv, hk⟩ := H.out
  have hq : ∀ (W : World) (i : Nat) (z : Value), Chg v W SB (SB + 1) → Chg v (W.setCell ⟨v.heap.size, i, none⟩ z) SB (SB + 1) := fun W i z h => h.setNew (Nat.le_refl _) z
  have hS : ∀ (W : World) (i : Nat) (z : Value), Src w W SB ca cn cc t → Src w (W.setCell ⟨v.heap.size, i, none⟩ z) SB ca cn cc t := fun W i z h => ⟨(Below.heap_setCell _ ⟨v.heap.size, i, none⟩ _ SB (show SB ≠ v.heap.size by omega)).trans h.box, h.bel.setCell (p := ⟨v.heap.size, i, none⟩) (show w.heap.size ≤ v.heap.size by omega) _, h.sb⟩
  have hR : ∀ (W : World) (i : Nat) (z : Value) {e : TypeId} {sz n : Nat} {u : Value} {xs : List Value}, W.ownsRow (v.heap.size + 1) e sz u n xs → (W.setCell ⟨v.heap.size, i, none⟩ z).ownsRow (v.heap.size + 1) e sz u n xs := fun W i z _ _ _ _ _ h => ownsRow_setCell_below h (a := ⟨v.heap.size, i, none⟩) (show v.heap.size < _ by omega) _
  have hO : ∀ (W : World) (i : Nat) (z : Value), OOwn W (v.heap.size + 1) V.heap.size (.slice oa os.length oc) os.length (fun j => os.getD j O0) kv → OOwn (W.setCell ⟨v.heap.size, i, none⟩ z) (v.heap.size + 1) V.heap.size (.slice oa os.length oc) os.length (fun j => os.getD j O0) kv := fun W i z h => by
    obtain ⟨xs, h1, h2⟩ := h.row
    exact ⟨⟨xs, hR _ _ _ h1, h2⟩, h.top, fun j hj => ⟨hR _ _ _ (h.keys j hj).1, (h.keys j hj).2⟩, h.apart⟩
  have hOf := hO _ 3 v3 (hO _ 2 v2 (hO _ 1 v1 (hO _ 0 v0 hk)))
  refine ⟨k, f, ia, ic, rs, oa, oc, os, t, he, hN, hK, hS _ _ _ (hS _ _ _ (hS _ _ _ (hS _ _ _ H.b.src))), hq _ _ _ (hq _ _ _ (hq _ _ _ (hq _ _ _ H.b.chg))), Joins.ownsRow_le (hR _ _ _ (hR _ _ _ (hR _ _ _ (hR _ _ _ H.ref)))) (by omega), ⟨kv, ?_⟩, ho.1⟩
  obtain ⟨xs, h1, h2⟩ := hOf.row
  exact ⟨⟨xs, Joins.ownsRow_le h1 (by omega), h2⟩, fun b hb => by simpa using hOf.top b hb, fun j hj => ⟨Joins.ownsRow_le (hOf.keys j hj).1 (by omega), fun b hb => by simpa using (hOf.keys j hj).2 b hb⟩, hOf.apart⟩

end Go.Proofs.YtciefdphjkjikaaGreatDoor
