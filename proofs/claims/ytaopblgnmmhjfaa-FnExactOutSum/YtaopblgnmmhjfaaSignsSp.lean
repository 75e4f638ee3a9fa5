/- What the specification's SignsOf answers. -/
import Derived.Test.YtaopblgnmmhjfaaSignsOf
namespace Go.Proofs.Ytaopblgnmmhjfaa
open Go.RowKit Go.Maps Go.WideMaps
attribute [local go_sem ↓] Go.wp_at_zero Go.wp_at_succ

/-- The result under way lies in block O, its list in memory of its own. -/
def Under (w2 wr : World) (gs : List (Int × Int)) (id : Int) (k : Nat) (a : Option Addr) (cap : Nat) : Prop :=
  wr.heap[w2.heap.size]? = some (.cells #[.int .i64 0, .slice a (selK gs id k).length cap] 47 (0, 0)) ∧ Below w2.heap.size w2 wr ∧
  wr.ownsRow (w2.heap.size + 1) 2 1 (.slice a (selK gs id k).length cap) (selK gs id k).length (ints (selK gs id k))

theorem Under.facts {w2 wr : World} {gs : List (Int × Int)} {id : Int} {k : Nat} {a : Option Addr} {cap : Nat} (h : Under w2 wr gs id k a cap) :
    wr.cell? ⟨w2.heap.size, 0, none⟩ = some (.int .i64 0) ∧ wr.cell? ⟨w2.heap.size, 1, none⟩ = some (.slice a (selK gs id k).length cap) ∧ w2.heap.size + 1 ≤ wr.heap.size ∧ wr.frozen? ⟨w2.heap.size, 1, none⟩ = false :=
  ⟨by unfold World.cell?; rw [h.1]; rfl, by unfold World.cell?; rw [h.1]; rfl, lt_of_block h.1, Joins.unfrozen_of_block h.1 1⟩

theorem Under.hit {w2 wr w3 : World} {gs : List (Int × Int)} {id g1 : Int} {k n : Nat} {a : Option Addr} {cap g cap' : Nat} {o : Obj} (h : Under w2 wr gs id k a cap) (hn : gs.length = n) (hlt : k < n) (hg : (g1, id) = gs.getD k G0)
    (ho : w3.ownsRow (w2.heap.size + 1) 2 1 (.slice (some ⟨g, 0, none⟩) ((selK gs id k).length + 1) cap') ((selK gs id k).length + 1) (ints (selK gs id k) ++ [.int .i64 g1]))
    (hgr : (wr.alloc o).drew.grownBy w3 (Value.ownBlock (.slice a (selK gs id k).length cap))) :
    w3.cell? ⟨w2.heap.size, 0, none⟩ = some (.int .i64 0) ∧ w3.cell? ⟨w2.heap.size, 1, none⟩ = some (.slice a (selK gs id k).length cap) ∧ w3.frozen? ⟨w2.heap.size, 1, none⟩ = false ∧
      Hid (Under w2 (w3.setCell ⟨w2.heap.size, 1, none⟩ (.slice (some ⟨g, 0, none⟩) ((selK gs id k).length + 1) cap')) gs id (k + 1) (some ⟨g, 0, none⟩) cap') := by
  obtain ⟨h1, h2, h3⟩ := h
  have hl := lt_of_block h1
  have hne : Value.ownBlock (.slice a (selK gs id k).length cap) ≠ some w2.heap.size := fun e => by have := (h3.lt _ e).1; omega
  have a1 : (wr.alloc o).heap[w2.heap.size]? = some (.cells #[.int .i64 0, .slice a (selK gs id k).length cap] 47 (0, 0)) := (Below.heap_alloc wr _ _ hl).trans h1
  have b1 := (hgr.block w2.heap.size (by show _ < (wr.alloc o).heap.size; simp; omega) (Ne.symm hne)).trans a1
  have e1 := selK_hit hn hlt hg
  have e2 : (selK gs id (k + 1)).length = (selK gs id k).length + 1 := by rw [e1]; simp
  have e3 : ints (selK gs id (k + 1)) = ints (selK gs id k) ++ [.int .i64 g1] := by rw [e1]; simp [ints]
  have hbel : Below w2.heap.size w2 w3 := ((h2.alloc (Nat.le_of_lt hl) o).drew).grown hgr (by show _ ≤ (wr.alloc o).heap.size; simp; omega) (fun j hj => by have := (h3.lt j hj).1; omega)
  refine ⟨by unfold World.cell?; rw [b1]; rfl, by unfold World.cell?; rw [b1]; rfl, Joins.unfrozen_of_block b1 1, ?_, hbel.setCell (p := ⟨w2.heap.size, 1, none⟩) (Nat.le_refl _) _, ?_⟩
  · rw [e2]
    have := Joins.block_setCell (i := 1) b1 (.slice (some ⟨g, 0, none⟩) ((selK gs id k).length + 1) cap')
    simpa using this
  · rw [e2, e3]
    exact ownsRow_setCell_below ho (a := ⟨w2.heap.size, 1, none⟩) (show w2.heap.size < _ by omega) _

set_option maxRecDepth 20000 in
set_option maxHeartbeats 1000000 in
theorem sSignsOf_any (n m tc gc : Nat) (ta ga : Option Addr) (ss : List ByteArray) (gs : List (Int × Int)) (id : Int) (w : World) (htc : n ≤ tc) (hgc : m ≤ gc) (htm : tc ≤ maxLen) (hgm : gc ≤ maxLen) (hf : Fine ss gs) (h : LedAt w ta n ga m ss gs) :
    Calls Try.prog 45 #[.agg #[.slice ta n tc, .slice ga m gc], .int .i64 id] w fun e w' => OutI w w' e (signsR ss gs id).1 (signsR ss gs id).2 := by
  have hfl := l1Fault_box n m tc gc ta ga ss gs w (.int .i64 0) (.slice none 0 0) 47 htc hgc htm hgm hf h
  have HL : Hid (LedAt w ta n ga m ss gs) := h
  have HN : Hid (ss.length = n) := h.s.1
  have HM : Hid (gs.length = m) := h.g.1
  clear h hf htc hgc htm hgm
  obtain ⟨c, hc⟩ : ∃ c, c = flt ss gs := ⟨_, rfl⟩
  rw [← hc] at hfl
  by_cases hcz : c = 0
  · subst hcz
    have hm120 : m ≤ 120 := by have := flt_le hc; rw [HM.out] at this; omega
    by_cases hi : inB id 1 n = true
    · rw [signsR_ok HN.out HM.out hc hi]
      have HI : Hid (inB id 1 n = true) := hi
      clear hc hi
      obtain ⟨i0, hi0, hz0, hz1, hz2⟩ := info_parts Try.infoI64
      go_enter Try.func45, Try.ntmps45
      go_wp2_with (first
        | (go_at_call 79; refine hfl.mono ?_; rintro e w2 ⟨rfl, hb2⟩; obtain ⟨p0, p1, q0, q1, q2, q3, HB⟩ := box2_facts hb2; have hat := l1Id_any w.heap.size n tc _ id w2 p0; rw [HI.out] at hat)
        | (go_at_call 90; refine hat.mono ?_; rintro e w3 ⟨rfl, hw⟩; have hw2 := hw.symm; subst hw2))
      clear hfl hat
      have hlw : w.heap.size + 1 < w2.heap.size := lt_of_block HB.out.1
      go_loopw [7] (fun i wr => ∃ k : Nat, k ≤ m ∧ i = .int .i64 k ∧ ∃ a cap, Under w2 wr gs id k a cap) (fun i _ => m - (intOf i).toNat)
      case atStart =>
        refine ⟨0, Nat.zero_le _, rfl, none, 0, ?_, (Below.refl _ _).alloc (Nat.le_refl _) _, World.ownsRow_nil _ _ _ _⟩
        exact heap_alloc_new _ _
      case round =>
        obtain ⟨k, hk, rfl, a, cap, hU⟩ := hrel
        obtain ⟨u0, u1, u2, u3⟩ := hU.facts
        have v1 := (hU.2.1.cell (p := ⟨w.heap.size, 1, none⟩) (show w.heap.size < _ by omega)).trans p1
        have hsl := selK_le gs id k
        have HU : Hid (Under w2 wr gs id k a cap) := hU
        clear hU
        by_cases hlt : k < m
        · rcases HL.out.g.2 with h0 | ⟨b, off, ha, hb, hcl⟩
          · omega
          subst ha
          obtain ⟨g, hg⟩ : ∃ g, g = gs.getD k G0 := ⟨_, rfl⟩
          have hcx := hcl k hlt
          rw [← hg] at hcx
          obtain ⟨g1, g2⟩ := g
          have hbw2 : Below w.heap.size w wr := HB.out.2.1.trans (HU.out.2.1.mono (by omega))
          have c0 := (hbw2.cell (p := ⟨b, off + k * 2, none⟩) hb).trans hcx.1
          have c1 := (hbw2.cell (p := ⟨b, off + k * 2 + 1, none⟩) hb).trans hcx.2
          have HG : Hid ((g1, g2) = gs.getD k G0) := hg
          have hki : (k : Int) < (m : Int) := by omega
          have u4 : w2.heap.size < wr.heap.size := by omega
          have u5 : w.heap.size < wr.heap.size := by omega
          have u6 : b < wr.heap.size := Nat.lt_of_lt_of_le hb hbw2.size
          clear hg hcl hcx hbw2
          by_cases hid : g2 = id
          · subst hid
            go_wp2
            go_region_law
              ((refine step_append_lies _ (by rfl) _ _ _ (by rfl) (w2.heap.size + 1) 2 i0 (.int .i64 0) 1 8 Try.underlying45 hi0 hz0 hz1 hz2 rfl (by omega) (.slice a (selK gs g2 k).length cap) (selK gs g2 k).length (ints (selK gs g2 k)) (by rfl) (by first | exact (HU.out.2.2.alloc _).drew | exact HU.out.2.2.drew.alloc _) ⟨wr.heap.size, 0, none⟩ 1 1 [.int .i64 g1] (by rfl) (by rfl) (news1 (by first | exact heap_alloc_new wr _ | exact heap_alloc_new wr.drew _)) one1 (by omega) (by unfold maxLen; omega) (by omega) (by simp; omega) (wr.heap.size + 1) (by simp) ?_; intro g cap' w3 ho3 hg3 hat hlt3; obtain ⟨y0, y1, y2, HY⟩ := HU.out.hit HM.out hlt HG.out ho3 hg3; clear ho3 hg3 hat hlt3))
            all_goals
              go_wp2
              go_roundw
              case rel => exact ⟨k + 1, by omega, by go_num, _, _, HY.out⟩
              case measure => simp [intOf]; omega
          · have hne : (g2 == id) = false := by simp [hid]
            have R2 : Hid (Under w2 wr gs id (k + 1) a cap) := by
              have e := selK_miss HM.out hlt HG.out hid
              unfold Under
              rw [e]
              exact HU.out
            go_wp2
            go_roundw
            case rel => exact ⟨k + 1, by omega, by go_num, a, cap, R2.out⟩
            case measure => simp [intOf]; omega
        · have hkm : k = m := by omega
          subst hkm
          obtain ⟨x0, x1, x2, x3, HX⟩ := res_cells HB.out.1 HU.out.2.1 hlw
          go_wp2
          obtain ⟨s0, s1, s2⟩ := two_set HX.out (.int .i64 0) (.slice a (selK gs id k).length cap)
          have hbw : Below w.heap.size w wr := HB.out.2.1.trans (HU.out.2.1.mono (by omega))
          refine bodyPost_ret (v := .agg #[.int .i64 0, .slice a (selK gs id k).length cap]) (by simp [results, Try.results45, go_sem, s0, s1]) rfl ⟨below_res hbw _ _, a, cap, rfl, ?_⟩
          refine Joins.ownsRow_le (base := w2.heap.size + 1) ?_ (by omega)
          exact ownsRow_setCell_below (ownsRow_setCell_below HU.out.2.2 (a := ⟨w.heap.size + 1, 0, none⟩) (show w.heap.size + 1 < _ by omega) _) (a := ⟨w.heap.size + 1, 1, none⟩) (show w.heap.size + 1 < _ by omega) _
    · have hi' : inB id 1 n = false := by simpa using hi
      rw [signsR_none HN.out hc hi']
      have HI : Hid (inB id 1 n = false) := hi'
      clear hc hi hi'
      go_enter Try.func45, Try.ntmps45
      go_wp2_with (first
        | (go_at_call 79; refine hfl.mono ?_; rintro e w2 ⟨rfl, hb2⟩; obtain ⟨p0, p1, q0, q1, q2, q3, HB⟩ := box2_facts hb2; have hat := l1Id_any w.heap.size n tc _ id w2 p0; rw [HI.out] at hat)
        | (go_at_call 90; refine hat.mono ?_; rintro e w3 ⟨rfl, hw⟩; have hw2 := hw.symm; subst hw2))
      obtain ⟨s0, s1, s2⟩ := two_set HB.out.1 (.int .i64 3) (.slice none 0 0)
      exact bodyPost_ret (v := .agg #[.int .i64 3, .slice none 0 0]) (by simp [results, Try.results45, go_sem, s0, s1]) rfl (OutI.empty (below_res HB.out.2.1 _ _))
  · rw [signsR_bad hc hcz]
    clear hc
    go_enter Try.func45, Try.ntmps45
    go_wp2_with (first
      | (go_at_call 79; refine hfl.mono ?_; rintro e w2 ⟨rfl, hb2⟩; obtain ⟨p0, p1, q0, q1, q2, q3, HB⟩ := box2_facts hb2))
    obtain ⟨s0, s1, s2⟩ := two_set HB.out.1 (.int .i64 c) (.slice none 0 0)
    exact bodyPost_ret (v := .agg #[.int .i64 c, .slice none 0 0]) (by simp [results, Try.results45, go_sem, s0, s1]) rfl (OutI.empty (below_res HB.out.2.1 _ _))

end Go.Proofs.Ytaopblgnmmhjfaa
