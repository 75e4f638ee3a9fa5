/- Blocks that are drawn: whatever the bytes, some block, its numbers in memory of its own. -/
import Derived.Test.YtlacmcedpphphaaDoorDr
import Derived.Test.YtlacmcedpphphaaDoorFg
import Derived.Test.YtlacmcedpphphaaDoorGd
import Derived.Test.YtlacmcedpphphaaDoorCv
import Derived.Test.YtlacmcedpphphaaDoorLOwnedBy
import Derived.Test.YtlacmcedpphphaaDoorRu
import Derived.Test.YtlacmcedpphphaaDoorCp
namespace Go.Proofs.YtlacmcedpphphaaDoor
open Go.RowKit Go.Shelf Go.Maps Go.WideMaps

/-- A block under way in block LB, the result's block behind what was there, the source as it goes. -/
structure Db (w v V : World) (SB : Nat) (ca : Option Addr) (cn cc t LB : Nat) (p h m : Int) (va : Option Addr) (vc : Nat) (l : List Int) : Prop where
  box : V.heap[LB]? = some (.cells #[.int .i64 p, .int .i64 h, .int .i64 m, .slice va l.length vc] 27 (0, 0))
  res : V.heap[v.heap.size]? = some (.cells #[.int .i64 0, .int .i64 0, .int .i64 0, .slice none 0 0] 27 (0, 0))
  src : Src w V SB ca cn cc t
  chg : Chg v V SB (SB + 1)
  row : V.ownsRow (v.heap.size + 1) 2 1 (.slice va l.length vc) l.length (ints l)
  ord : SB < v.heap.size ∧ v.heap.size < LB
theorem intx_added {W : World} {lo X j : Nat} {v : Value} {ks : List Int} {k : Int} (h : W.ownsRow lo 2 1 v j (ints ks)) (hX : W.heap[X]? = some (.cells #[.int .i64 k] 2 (0, 0))) (hj : j ≤ 1000) (hlo : lo ≤ W.heap.size) :
    ∃ g cap w5, (Builtin.append_ #[25, 25] 25 #[v, .slice (some ⟨X, 0, none⟩) 1 1]).run Tryd.prog W = .ok (.slice (some ⟨g, 0, none⟩) (j + 1) cap) w5 ∧
      Hid (w5.ownsRow lo 2 1 (.slice (some ⟨g, 0, none⟩) (j + 1) cap) (j + 1) (ints (ks ++ [k])) ∧ W.grownBy w5 v.ownBlock) := by
  obtain ⟨i0, hi, hz0, hz1, hz2⟩ := info_parts Tryd.infoI64
  obtain ⟨v', w5, hrun, hown', hgrow, hsome⟩ := run_append_own (P := Tryd.prog) W lo 25 25 2 i0 (.int .i64 0) 1 8 Tryd.underlying25 hi hz0 hz1 hz2 rfl (by decide) v j (ints ks) h ⟨X, 0, none⟩ 1 1 [.int .i64 k] rfl (World.news_of_block hX) (by
    intro z hz
    simp only [List.mem_cons, List.not_mem_nil, or_false] at hz
    subst hz; rfl) (by unfold maxLen; omega) (by omega) hlo
  obtain ⟨g, cap, rfl⟩ := ownsRow_succ hown'
  refine ⟨g, cap, w5, hrun, ?_, hgrow⟩
  rw [ints_more]
  exact hown'
section
variable {w v V V' : World} {SB : Nat} {ca : Option Addr} {cn cc t t' LB : Nat} {p h m : Int} {va : Option Addr} {vc : Nat} {l : List Int}
theorem Chg.more {lo hi B : Nat} (h : Chg v V lo hi) (hb : Below B V V') (hB : v.heap.size ≤ B) : Chg v V' lo hi := ⟨hb.os.trans h.os, hb.tape.trans h.tape, hb.output.trans h.output, Nat.le_trans h.size hb.size, fun b hbs ho => (hb.block b (by omega)).trans (h.block b hbs ho)⟩
theorem Db.step (H : Db w v V SB ca cn cc t LB p h m va vc l) (hb : Below V.heap.size V V') : Db w v V' SB ca cn cc t LB p h m va vc l :=
  ⟨(keepb H.box hb).out, (keepb H.res hb).out, H.src.step hb, H.chg.more hb H.chg.size, H.row.kept (grown_of_below hb) (by cases Value.ownBlock (.slice va l.length vc) <;> simp), H.ord⟩
theorem Db.draw (H : Db w v V SB ca cn cc t LB p h m va vc l) (hS : Src w V' SB ca cn cc t') (hc : Chg V V' SB (SB + 1)) : Db w v V' SB ca cn cc t' LB p h m va vc l := by
  have := H.ord
  exact ⟨hc.keep1 H.box (by omega), hc.keep1 H.res (by omega), hS, H.chg.trans hc, hc.row1 H.row (by omega), H.ord⟩
theorem Db.lt (H : Db w v V SB ca cn cc t LB p h m va vc l) : LB < V.heap.size := lt_of_block H.box
theorem Db.cells (H : Db w v V SB ca cn cc t LB p h m va vc l) : V.cell? ⟨LB, 0, none⟩ = some (.int .i64 p) ∧ V.cell? ⟨LB, 1, none⟩ = some (.int .i64 h) ∧ V.cell? ⟨LB, 2, none⟩ = some (.int .i64 m) ∧ V.cell? ⟨LB, 3, none⟩ = some (.slice va l.length vc) ∧ V.frozen? ⟨LB, 0, none⟩ = false ∧ V.frozen? ⟨LB, 1, none⟩ = false ∧ V.frozen? ⟨LB, 2, none⟩ = false ∧ V.frozen? ⟨LB, 3, none⟩ = false := cells4 H.box
theorem row_ne {base n c : Nat} {a : Option Addr} {xs cs : List Value} {fz : Nat × Nat} (hr : V.ownsRow base 2 1 (.slice a n c) n xs) (hb : V.heap[LB]? = some (.cells cs.toArray 27 fz)) : ∀ b, Value.ownBlock (.slice a n c) = some b → b ≠ LB := by
  intro b hbb e
  subst e
  rcases hr.2 with ⟨e1, _⟩ | ⟨g, cap, cur, e1, _, h2, _⟩
  · rw [e1] at hbb; cases hbb
  · rw [e1] at hbb
    have e2 : g = b := by simpa [Value.ownBlock] using hbb
    subst e2
    rw [h2] at hb
    have := Option.some.inj hb
    injection this with _ e3
    exact absurd e3 (by decide)
theorem Db.ne (H : Db w v V SB ca cn cc t LB p h m va vc l) : ∀ b, Value.ownBlock (.slice va l.length vc) = some b → b ≠ LB := row_ne (cs := [.int .i64 p, .int .i64 h, .int .i64 m, .slice va l.length vc]) H.row H.box
theorem Db.iat (H : Db w v V SB ca cn cc t LB p h m va vc l) : IAt V va l.length l := iat_row H.row rfl
/-- A cell of the block is set. -/
theorem Db.setk {p' h' m' : Int} {i : Nat} {u : Value} (H : Db w v V SB ca cn cc t LB p h m va vc l) (hq : (#[.int .i64 p, .int .i64 h, .int .i64 m, .slice va l.length vc] : Array Value).setIfInBounds i u = #[.int .i64 p', .int .i64 h', .int .i64 m', .slice va l.length vc]) : Db w v (V.setCell ⟨LB, i, none⟩ u) SB ca cn cc t LB p' h' m' va vc l := by
  have ho := H.ord
  refine ⟨?_, (Below.heap_setCell _ ⟨LB, i, none⟩ _ v.heap.size (show v.heap.size ≠ LB by omega)).trans H.res, ?_, ?_, ownsRow_setCell_other H.row (a := ⟨LB, i, none⟩) (fun e => H.ne _ e rfl) u, ho⟩
  · have := Joins.block_setCell (i := i) H.box u
    rw [hq] at this
    exact this
  · exact ⟨(Below.heap_setCell _ ⟨LB, i, none⟩ _ SB (show SB ≠ LB by omega)).trans H.src.box, H.src.bel.setCell (p := ⟨LB, i, none⟩) (show w.heap.size ≤ LB by have := H.src.sb; omega) _, H.src.sb⟩
  · exact ⟨H.chg.os, H.chg.tape, H.chg.output, by simpa using H.chg.size, fun b hb hd => (Below.heap_setCell _ ⟨LB, i, none⟩ _ b (show b ≠ LB by omega)).trans (H.chg.block b hb hd)⟩
theorem Db.start (hS : Src w V SB ca cn cc t) (hc : Chg v V SB (SB + 1)) (hr : V.heap[v.heap.size]? = some (.cells #[.int .i64 0, .int .i64 0, .int .i64 0, .slice none 0 0] 27 (0, 0))) (hl : SB < v.heap.size) (p h m : Int) : Db w v (V.alloc (.cells #[.int .i64 p, .int .i64 h, .int .i64 m, .slice none 0 0] 27)) SB ca cn cc t V.heap.size p h m none 0 [] :=
  ⟨heap_alloc_new _ _, (keepb hr (below_box _)).out, hS.step (below_box _), hc.trans (Chg.of_below (below_box _) _ _), World.ownsRow_nil _ _ _ _, hl, lt_of_block hr⟩
/-- One number more. -/
theorem Db.more {k : Int} (H : Db w v V SB ca cn cc t LB p h m va vc l) (hl : l.length ≤ 500) :
    ∃ g cap w5, (Builtin.append_ #[25, 25] 25 #[.slice va l.length vc, .slice (some ⟨V.heap.size, 0, none⟩) 1 1]).run Tryd.prog (V.alloc (.cells #[.int .i64 k] 2)) = .ok (.slice (some ⟨g, 0, none⟩) (l.length + 1) cap) w5 ∧
      (w5.cell? ⟨LB, 3, none⟩ = some (.slice va l.length vc) ∧ w5.frozen? ⟨LB, 3, none⟩ = false) ∧ Hid (Db w v (w5.setCell ⟨LB, 3, none⟩ (.slice (some ⟨g, 0, none⟩) (l.length + 1) cap)) SB ca cn cc t LB p h m (some ⟨g, 0, none⟩) cap (l ++ [k])) := by
  have H1 := H.step (below_box (.cells #[.int .i64 k] 2))
  have ho := H.ord
  have hlt := H.lt
  have hvs := H.chg.size
  have hss := H.src.lt
  obtain ⟨g, cap, w5, hrun, HG⟩ := intx_added (k := k) (X := V.heap.size) H1.row (heap_alloc_new _ _) (by omega) (by simp; omega)
  obtain ⟨hown, hgr⟩ := HG.out
  have hbk : ∀ b, b < v.heap.size + 1 ∨ b = LB → b < V.heap.size → w5.heap[b]? = (V.alloc (.cells #[.int .i64 k] 2)).heap[b]? := fun b hb hs => hgr.block b (by simp; omega) (fun e => by
    rcases hb with hb | hb
    · have := (H1.row.lt b e.symm).1; omega
    · exact H1.ne b e.symm hb)
  have b5 := (hbk LB (.inr rfl) hlt).trans H1.box
  obtain ⟨_, _, _, c3, _, _, _, f3⟩ := cells4 b5
  refine ⟨g, cap, w5, hrun, ⟨c3, f3⟩, ?_⟩
  have hlen : (l ++ [k]).length = l.length + 1 := by simp
  have hne := row_ne (cs := [.int .i64 p, .int .i64 h, .int .i64 m, .slice va l.length vc]) hown b5
  show Db _ _ _ _ _ _ _ _ _ _ _ _ _ _ _
  refine ⟨?_, (Below.heap_setCell _ ⟨LB, 3, none⟩ _ v.heap.size (show v.heap.size ≠ LB by omega)).trans ((hbk _ (.inl (by omega)) (by omega)).trans H1.res), ?_, ?_, ?_, ho⟩
  · have := Joins.block_setCell (i := 3) b5 (.slice (some ⟨g, 0, none⟩) (l.length + 1) cap)
    rw [hlen]
    simpa using this
  · refine ⟨(Below.heap_setCell _ ⟨LB, 3, none⟩ _ SB (show SB ≠ LB by omega)).trans ((hbk SB (.inl (by omega)) (by omega)).trans H1.src.box), ?_, H.src.sb⟩
    have hsb := H.src.sb
    refine Below.setCell (p := ⟨LB, 3, none⟩) ?_ (show w.heap.size ≤ LB by omega) _
    exact ⟨hgr.os.trans H1.src.bel.os, hgr.tape.trans H1.src.bel.tape, hgr.output.trans H1.src.bel.output, Nat.le_trans H1.src.bel.size hgr.size, fun b hb => (hbk b (.inl (by omega)) (by have := H.src.bel.size; omega)).trans (H1.src.bel.block b hb)⟩
  · have hg5 := hgr.size
    exact ⟨hgr.os.trans H1.chg.os, hgr.tape.trans H1.chg.tape, hgr.output.trans H1.chg.output, by have := H1.chg.size; simp only [World.size_setCell]; omega, fun b hb hd => (Below.heap_setCell _ ⟨LB, 3, none⟩ _ b (show b ≠ LB by omega)).trans ((hbk b (.inl (by omega)) (by omega)).trans (H1.chg.block b hb hd))⟩
  · rw [hlen]
    exact ownsRow_setCell_other hown (a := ⟨LB, 3, none⟩) (fun e => hne _ e rfl) _
/-- The block is handed back. -/
def OutDb (w v : World) (SB : Nat) (ca : Option Addr) (cn cc T : Nat) (e : Ending) (v' : World) (K : Int → Int → Int → List Int → Prop) : Prop :=
  ∃ (p h m : Int) (l : List Int) (va : Option Addr) (vc t' : Nat), e = .returned (.agg #[.int .i64 p, .int .i64 h, .int .i64 m, .slice va l.length vc]) ∧ Hid (v'.ownsRow v.heap.size 2 1 (.slice va l.length vc) l.length (ints l)) ∧ Hid (K p h m l) ∧ t' ≤ T ∧ Hid (Src w v' SB ca cn cc t') ∧ Hid (Chg v v' SB (SB + 1))
theorem Db.ret (H : Db w v V SB ca cn cc t LB p h m va vc l) {T : Nat} (hT : t ≤ T) {K : Int → Int → Int → List Int → Prop} (hK : K p h m l) {e : Ending} (he : e = .returned (.agg #[.int .i64 p, .int .i64 h, .int .i64 m, .slice va l.length vc])) (v0 v1 v2 v3 : Value) :
    OutDb w v SB ca cn cc T e ((((V.setCell ⟨v.heap.size, 0, none⟩ v0).setCell ⟨v.heap.size, 1, none⟩ v1).setCell ⟨v.heap.size, 2, none⟩ v2).setCell ⟨v.heap.size, 3, none⟩ v3) K := by
  have ho := H.ord
  have hsb := H.src.sb
  refine ⟨p, h, m, l, va, vc, t, he, row_res4 H.row (by omega) (by omega) _ _ _ _, hK, hT, ?_, ?_⟩
  · exact ⟨(four_set_heap (b := v.heap.size) (c := SB) (by omega) _ _ _ _).trans H.src.box, (((H.src.bel.setCell (p := ⟨v.heap.size, 0, none⟩) (show w.heap.size ≤ v.heap.size by omega) _).setCell (p := ⟨v.heap.size, 1, none⟩) (show w.heap.size ≤ v.heap.size by omega) _).setCell (p := ⟨v.heap.size, 2, none⟩) (show w.heap.size ≤ v.heap.size by omega) _).setCell (p := ⟨v.heap.size, 3, none⟩) (show w.heap.size ≤ v.heap.size by omega) _, hsb⟩
  · exact ⟨H.chg.os, H.chg.tape, H.chg.output, by simpa using H.chg.size, fun b hb hd => (four_set_heap (b := v.heap.size) (c := b) (by omega) _ _ _ _).trans (H.chg.block b hb hd)⟩
end

def KD (p h m : Int) (l : List Int) : Prop := BlOk p h m l ∧ l.length ≤ 3
def KB (_ _ _ : Int) (l : List Int) : Prop := l.length ≤ 7
theorem kd_more {p h m k : Int} {l : List Int} (H : BlOk p h m l) (hl : l.length ≤ 4) (h1 : 1 ≤ k) (h2 : k ≤ 60) : BlOk p h m (l ++ [k]) :=
  ⟨H.p, H.h, H.m, by simp; omega, fun x hx => by
    rcases List.mem_append.1 hx with hx | hx
    · exact H.t x hx
    · simp at hx; omega⟩

set_option maxRecDepth 20000 in
set_option maxHeartbeats 4000000 in
theorem l7Draw_any (SB cn cc t : Nat) (ca : Option Addr) (l0 : List Int) (w v : World) (ht : t ≤ 900) (hcn : cn ≤ 1048576) (hB : BAt w ca cn l0) (h : Src w v SB ca cn cc t) :
    Calls Tryd.prog 17 #[.pointer (some ⟨SB, 0, none⟩)] v fun e v' => OutDb w v SB ca cn cc (t + 7) e v' KD := by
  have HBA : Hid (BAt w ca cn l0) := hB
  have hlt := h.lt
  have h1 := l1Next_any SB cn cc t ca l0 9 w (v.alloc (.cells #[.int .i64 0, .int .i64 0, .int .i64 0, .slice none 0 0] 27)) (by omega) (by omega) hcn hB (h.step (below_box _))
  have HC1 : Hid (Chg v (v.alloc (.cells #[.int .i64 0, .int .i64 0, .int .i64 0, .slice none 0 0] 27)) SB (SB + 1)) := Chg.of_below (below_box _) _ _
  have HR1 : Hid ((v.alloc (.cells #[.int .i64 0, .int .i64 0, .int .i64 0, .slice none 0 0] 27)).heap[v.heap.size]? = some (.cells #[.int .i64 0, .int .i64 0, .int .i64 0, .slice none 0 0] 27 (0, 0))) := heap_alloc_new _ _
  clear hB h
  go_enter Tryd.func17, Tryd.ntmps17
  go_wp2_with (first
    | (go_at_call 19; have hq := h1; clear h1; (with_reducible refine hq.mono ?_); clear hq; rintro e v2 ⟨r1, rfl, ⟨a1, b1⟩, hS2, hc2⟩; have b1' : r1 < 9 := b1 (by omega); clear b1; have HC2 : Hid (Chg v v2 SB (SB + 1)) := HC1.out.trans hc2; have HR2 : Hid (v2.heap[v.heap.size]? = some (.cells #[.int .i64 0, .int .i64 0, .int .i64 0, .slice none 0 0] 27 (0, 0))) := hc2.keep1 HR1.out (by omega); have h2 := l1Next_any SB cn cc (t + 1) ca l0 9 w v2 (by omega) (by omega) hcn HBA.out hS2; clear hS2 hc2)
    | (go_at_call 19; have hq := h2; clear h2; (with_reducible refine hq.mono ?_); clear hq; rintro e v3 ⟨r2, rfl, ⟨a2, b2⟩, hS3, hc3⟩; have b2' : r2 < 9 := b2 (by omega); clear b2; have hw2 := IntWalk.i64_in (2 + r2) (by omega); have HC3 : Hid (Chg v v3 SB (SB + 1)) := HC2.out.trans hc3; have HR3 : Hid (v3.heap[v.heap.size]? = some (.cells #[.int .i64 0, .int .i64 0, .int .i64 0, .slice none 0 0] 27 (0, 0))) := hc3.keep1 HR2.out (by omega); have h3 := l1Next_any SB cn cc (t + 1 + 1) ca l0 4 w v3 (by omega) (by omega) hcn HBA.out hS3; clear hS3 hc3)
    | (go_at_call 19; have hq := h3; clear h3; (with_reducible refine hq.mono ?_); clear hq; rintro e v4 ⟨r3, rfl, ⟨a3, b3⟩, hS4, hc4⟩; have b3' : r3 < 4 := b3 (by omega); clear b3; have hw3 := IntWalk.i64_in (1 + r3) (by omega); have HC4 : Hid (Chg v v4 SB (SB + 1)) := HC3.out.trans hc4; have HR4 : Hid (v4.heap[v.heap.size]? = some (.cells #[.int .i64 0, .int .i64 0, .int .i64 0, .slice none 0 0] 27 (0, 0))) := hc4.keep1 HR3.out (by omega); have HS4 : Hid (Src w v4 SB ca cn cc (t + 1 + 1 + 1)) := hS4; clear hS4 hc4)
    | (go_at_call 19; first | (have hD := Db.start HS4.out HC4.out HR4.out hlt r1 (1) (1 + r3); (with_reducible refine (l1Next_any SB cn cc (t + 1 + 1 + 1) ca l0 4 w _ (by omega) (by omega) hcn HBA.out hD.src).mono ?_); rintro e v5 ⟨r4, rfl, ⟨a4, b4⟩, hS5, hc5⟩; have b4' : r4 < 4 := b4 (by omega); clear b4; have HD5 : Hid (∃ hh : Int, (1 ≤ hh ∧ hh ≤ 40) ∧ Db w v v5 SB ca cn cc (t + 1 + 1 + 1 + 1) v4.heap.size r1 hh (1 + r3) none 0 []) := ⟨_, (by omega), hD.draw hS5 hc5⟩; clear hS5 hc5 hD) | (have hD := Db.start HS4.out HC4.out HR4.out hlt r1 (2 + r2) (1 + r3); (with_reducible refine (l1Next_any SB cn cc (t + 1 + 1 + 1) ca l0 4 w _ (by omega) (by omega) hcn HBA.out hD.src).mono ?_); rintro e v5 ⟨r4, rfl, ⟨a4, b4⟩, hS5, hc5⟩; have b4' : r4 < 4 := b4 (by omega); clear b4; have HD5 : Hid (∃ hh : Int, (1 ≤ hh ∧ hh ≤ 40) ∧ Db w v v5 SB ca cn cc (t + 1 + 1 + 1 + 1) v4.heap.size r1 hh (1 + r3) none 0 []) := ⟨_, (by omega), hD.draw hS5 hc5⟩; clear hS5 hc5 hD)))
  all_goals
    obtain ⟨k4, rfl⟩ := Int.eq_ofNat_of_zero_le a4
    go_loopw [4] (fun i wr => ∃ k : Nat, k ≤ 3 ∧ i = .int .i64 k ∧ Hid (∃ (t' : Nat) (p h m : Int) (va : Option Addr) (vc : Nat) (l : List Int), Db w v wr SB ca cn cc t' v4.heap.size p h m va vc l ∧ BlOk p h m l ∧ l.length + k ≤ 3 ∧ t' + k ≤ t + 7)) (fun i _ => (intOf i).toNat)
    case atStart =>
      obtain ⟨hh, hb, hD⟩ := HD5.out
      exact ⟨k4, by omega, rfl, _, _, _, _, _, _, _, hD, ⟨by omega, hb, by omega, by simp, by simp⟩, by simp; omega, by omega⟩
    case round =>
      obtain ⟨k, hk, rfl, HI⟩ := hrel
      obtain ⟨t', p, h, m, va, vc, l, hD, hok, hlk, htk⟩ := HI.out
      by_cases hk0 : 0 < k
      · obtain ⟨k', rfl⟩ : ∃ k', k = k' + 1 := ⟨k - 1, by omega⟩
        have hki : (0 : Int) < ((k' + 1 : Nat) : Int) := by omega
        have hN := l1Next_any SB cn cc t' ca l0 20 w wr (by omega) (by omega) hcn HBA.out hD.src
        have HD : Hid (Db w v wr SB ca cn cc t' v4.heap.size p h m va vc l) := hD
        have HOK : Hid (BlOk p h m l) := hok
        clear hD hok HI
        go_wp2_with (first
          | (go_at_call 19; (with_reducible refine hN.mono ?_); clear hN; rintro e v6 ⟨r6, rfl, ⟨a6, b6⟩, hS6, hc6⟩; have b6' : r6 < 20 := b6 (by omega); clear b6; have hw6 := IntWalk.i64_in (1 + r6) (by omega); have HD6 : Hid (Db w v v6 SB ca cn cc (t' + 1) v4.heap.size p h m va vc l) := HD.out.draw hS6 hc6; obtain ⟨c0, c1, c2, c3, f0, f1, f2, f3⟩ := HD6.out.cells; have hA := l4Among_any va l.length vc l (1 + r6) v6 (by unfold maxLen; omega) HD6.out.iat; obtain ⟨g, cap, w7, hrun, ⟨c3', f3'⟩, HD7⟩ := HD6.out.more (k := 1 + r6) (by omega); clear hS6 hc6)
          | (go_at_call 33; (with_reducible refine hA.mono ?_); clear hA; rintro e v7 ⟨rfl, hw⟩; have hw2 := hw.symm; subst hw2)
          | (at_builtin; go_must (refine wpList_append_runC (by rfl) _ _ _ (by rfl) (by rfl) (by rfl) hrun ?_); clear hrun))
        all_goals
          go_roundw
          case rel => exact ⟨k', by omega, by go_num, by first | exact ⟨_, _, _, _, _, _, _, HD7.out, kd_more HOK.out (by omega) (by omega) (by omega), by simp; omega, by omega⟩ | exact ⟨_, _, _, _, _, _, _, HD6.out, HOK.out, by omega, by omega⟩⟩
          case measure => simp [intOf]; try omega
      · have hki : ¬ (0 : Int) < (k : Int) := by omega
        obtain rfl : k = 0 := by omega
        obtain ⟨c0, c1, c2, c3, _⟩ := hD.cells
        obtain ⟨d0, d1, d2, d3, d4, d5, d6, d7⟩ := cells4 hD.res
        obtain ⟨j0, j1, j2, j3⟩ := four_set hD.res (.int .i64 p) (.int .i64 h) (.int .i64 m) (.slice va l.length vc)
        have HD : Hid (Db w v wr SB ca cn cc t' v4.heap.size p h m va vc l) := hD
        have HOK : Hid (BlOk p h m l) := hok
        clear hD hok HI
        go_wp2
        exact bodyPost_ret (v := .agg #[.int .i64 p, .int .i64 h, .int .i64 m, .slice va l.length vc]) (by simp [results, Tryd.results17, go_sem, j0, j1, j2, j3]) rfl (HD.out.ret (by omega) ⟨HOK.out, by omega⟩ rfl _ _ _ _)

end Go.Proofs.YtlacmcedpphphaaDoor
