/- The specification's l4Add keeps its contract. -/
import Derived.Test.YtdfijlcjmllplaaDt
import Derived.Test.YtdfijlcjmllplaaDk
namespace Go.Proofs.Ytdfijlcjmllplaa
open Go.RowKit Go.Maps Go.WideMaps

/-- What l4Add comes to: so many coins of the call's own. -/
def AddO (w w' : World) (e : Ending) (lo n : Nat) (rs : List Co) : Prop :=
  ∃ g uc, e = .returned (.slice (some ⟨g, 0, none⟩) n uc) ∧ (∃ kv, COwn w' lo w'.heap.size (.slice (some ⟨g, 0, none⟩) n uc) n (fun j => rs.getD j C0) kv) ∧ Below lo w w'

def AddB (w w' : World) (e : Ending) (lo n : Nat) (rs : List Co) (kv : Nat → Value) (ku : Value) : Prop :=
  ∃ g uc, e = .returned (.slice (some ⟨g, 0, none⟩) (n + 1) uc) ∧ (∃ kv', COwn w' lo w'.heap.size (.slice (some ⟨g, 0, none⟩) (n + 1) uc) (n + 1) (fun j => rs.getD j C0) kv' ∧ FromK kv' kv ku n) ∧ Below w.heap.size w w'

set_option maxRecDepth 20000 in
set_option maxHeartbeats 8000000 in
theorem l4AddB_any (g n uc lo kc : Nat) (ka : Option Addr) (ts : List Co) (kv : Nat → Value) (xp xq xv : Int) (xl : List Int) (xx xy xh : Int) (xm : Bool) (w : World) (hl : ts.length = n) (hn : n ≤ 100) (hk : ∀ j, j < n → (ts.getD j C0).l.length ≤ 1048576) (hlo : lo ≤ w.heap.size)
    (hO : COwn w lo w.heap.size (.slice (some ⟨g, 0, none⟩) n uc) n (fun j => ts.getD j C0) kv) (hku : w.ownsRow lo 2 1 (.slice ka xl.length kc) xl.length (ints xl)) (hap : ∀ i, i < n → ∀ b, (kv i).ownBlock = some b → Value.ownBlock (.slice ka xl.length kc) ≠ some b) :
    Calls Try.prog 53 #[.slice (some ⟨g, 0, none⟩) n uc, .agg #[.int .i64 xp, .int .i64 xq, .int .i64 xv, .slice ka xl.length kc, .int .i64 xx, .int .i64 xy, .int .i64 xh, .bool xm]] w fun e w' => AddB w w' e lo n (addC ts (⟨xp, xq, xv, xl, xx, xy, xh, xm⟩ : Co)) kv (.slice ka xl.length kc) := by
  have HC : Hid (CAt w (some ⟨g, 0, none⟩) n ts) := own_at2 hO hl hk
  have HL : Hid (ts.length = n) := hl
  have HLO : Hid (lo ≤ w.heap.size) := hlo
  have HAP : Hid (∀ i, i < n → ∀ b, (kv i).ownBlock = some b → Value.ownBlock (.slice ka xl.length kc) ≠ some b) := hap
  have T1 : Hid ((w.alloc (.cells #[.int .i64 xp, .int .i64 xq, .int .i64 xv, .slice ka xl.length kc, .int .i64 xx, .int .i64 xy, .int .i64 xh, .bool xm] 41)).heap[w.heap.size]? = some (.cells #[.int .i64 xp, .int .i64 xq, .int .i64 xv, .slice ka xl.length kc, .int .i64 xx, .int .i64 xy, .int .i64 xh, .bool xm] 41 (0, 0))) := heap_alloc_new _ _
  have HO1 : Hid (COwn (w.alloc (.cells #[.int .i64 xp, .int .i64 xq, .int .i64 xv, .slice ka xl.length kc, .int .i64 xx, .int .i64 xy, .int .i64 xh, .bool xm] 41)) lo w.heap.size (.slice (some ⟨g, 0, none⟩) n uc) n (fun j => ts.getD j C0) kv) := hO.below (below_box _)
  have HKU1 : Hid ((w.alloc (.cells #[.int .i64 xp, .int .i64 xq, .int .i64 xv, .slice ka xl.length kc, .int .i64 xx, .int .i64 xy, .int .i64 xh, .bool xm] 41)).ownsRow lo 2 1 (.slice ka xl.length kc) xl.length (ints xl)) := hku.alloc _
  obtain ⟨hq1, hq2⟩ : n ≤ uc ∧ uc ≤ maxLen := by
    obtain ⟨xs, q, _⟩ := hO.row
    rcases q.2 with ⟨e, _⟩ | ⟨g', cap, cur, e, _, _, q1, q2, _⟩
    · cases e
    · cases e; exact ⟨q1, q2⟩
  unfold maxLen at hq2
  have hs1 : (w.alloc (.cells #[.int .i64 xp, .int .i64 xq, .int .i64 xv, .slice ka xl.length kc, .int .i64 xx, .int .i64 xy, .int .i64 xh, .bool xm] 41)).heap.size = w.heap.size + 1 := by simp
  clear hl hk hO hku hap
  go_enter Try.func53, Try.ntmps53
  go_wp2
  go_loopw [5] (fun i wr => ∃ j : Nat, j ≤ n ∧ i = .int .i64 j ∧ Below (w.alloc (.cells #[.int .i64 xp, .int .i64 xq, .int .i64 xv, .slice ka xl.length kc, .int .i64 xx, .int .i64 xy, .int .i64 xh, .bool xm] 41)).heap.size (w.alloc (.cells #[.int .i64 xp, .int .i64 xq, .int .i64 xv, .slice ka xl.length kc, .int .i64 xx, .int .i64 xy, .int .i64 xh, .bool xm] 41)) wr ∧ Hid (∀ t, t < j → 0 < cmpR (xp, xq) ((ts.getD t C0).p, (ts.getD t C0).q))) (fun i _ => n - (intOf i).toNat)
  case atStart => exact ⟨0, Nat.zero_le _, rfl, Below.refl _ _, fun t ht => by omega⟩
  case round =>
    obtain ⟨j, hj, rfl, hbel, HI⟩ := hrel
    by_cases hlt : j < n
    · rcases HC.out.2 with h0 | ⟨b, off, e0, l0, d0⟩
      · omega
      cases e0
      obtain ⟨o, ho⟩ : ∃ o, o = ts.getD j C0 := ⟨_, rfl⟩
      obtain ⟨oa, oc, p0, _, _⟩ := d0 j hlt
      rw [← ho] at p0
      have HS : Hid (o = ts.getD j C0) := ho
      obtain ⟨op, oq, ov, ol, ox, oy, oh, om⟩ := o
      have hbw : Below w.heap.size w wr := (below_box _).trans (hbel.mono (by omega))
      obtain ⟨x0, x1, _⟩ := p0.below hbw l0
      simp only [Nat.zero_add] at x0 x1
      obtain ⟨⟨b0, b1, _⟩, _⟩ := cells8 (keepb T1.out hbel).out
      obtain ⟨kb, hkb⟩ : ∃ k, k = decide (0 < cmpR (xp, xq) (op, oq)) := ⟨_, rfl⟩
      have HKB : Hid (kb = decide (0 < cmpR (xp, xq) (op, oq))) := hkb
      have hah : Calls Try.prog 49 #[.agg #[.int .i64 op, .int .i64 oq], .agg #[.int .i64 xp, .int .i64 xq]] wr.drew fun e w' => e = .returned (.bool kb) ∧ Below wr.heap.size wr w' := by
        rw [HKB.out]; exact (l4Ahead_any op oq xp xq wr.drew).mono fun e w' h => ⟨h.1, (Below.refl _ _).drew.trans h.2⟩
      have hki : (j : Int) < (n : Int) := by omega
      have hd : decide (j < n) = true := decide_eq_true hlt
      have hgl : g < wr.heap.size := Nat.lt_of_lt_of_le l0 hbw.size
      have hbl : w.heap.size < wr.heap.size := lt_of_block (keepb T1.out hbel).out
      have HBW0 : Hid (Below w.heap.size w wr) := hbw
      clear d0 ho p0 hkb hbw
      go_wp2
      go_region_held3 (fun w' => w'.cell? ⟨g, j * 8, none⟩ = some (.int .i64 op) ∧ w'.cell? ⟨g, j * 8 + 1, none⟩ = some (.int .i64 oq) ∧ w'.cell? ⟨w.heap.size, 0, none⟩ = some (.int .i64 xp) ∧ w'.cell? ⟨w.heap.size, 1, none⟩ = some (.int .i64 xq)) (go_keep)
        (first | (go_at_call 49; refine hah.mono ?_; rintro e w4 ⟨rfl, hb4⟩; have z0 := (hb4.cell (p := ⟨g, j * 8, none⟩) hgl).trans x0; have z1 := (hb4.cell (p := ⟨g, j * 8 + 1, none⟩) hgl).trans x1; have z2 := (hb4.cell (p := ⟨w.heap.size, 0, none⟩) hbl).trans b0; have z3 := (hb4.cell (p := ⟨w.heap.size, 1, none⟩) hbl).trans b1))
      cases kb
      · have HBt : Hid (Below (w.alloc (.cells #[.int .i64 xp, .int .i64 xq, .int .i64 xv, .slice ka xl.length kc, .int .i64 xx, .int .i64 xy, .int .i64 xh, .bool xm] 41)).heap.size (w.alloc (.cells #[.int .i64 xp, .int .i64 xq, .int .i64 xv, .slice ka xl.length kc, .int .i64 xx, .int .i64 xy, .int .i64 xh, .bool xm] 41)) w4) := hbel.trans (hb4.mono hbel.size)
        have HST : Hid (j < ts.length → ¬ 0 < cmpR (xp, xq) ((ts.getD j C0).p, (ts.getD j C0).q)) := fun _ => by
          rw [← HS.out]
          exact of_decide_eq_false HKB.out.symm
        have HSP : Hid (addC ts (⟨xp, xq, xv, xl, xx, xy, xh, xm⟩ : Co) = ts.take j ++ (⟨xp, xq, xv, xl, xx, xy, xh, xm⟩ : Co) :: ts.drop j) := addC_split (by rw [HL.out]; omega) HI.out HST.out
        clear x0 x1 b0 b1 z0 z1 z2 z3 hb4 hbel hah
        have hsW : w.heap.size < w4.heap.size := Nat.lt_of_lt_of_le (by simp) HBt.out.size
        have hloW : lo ≤ w4.heap.size := by omega
        have HOW : Hid (COwn (w4.alloc (.cells #[] 41)) lo w4.heap.size (.slice (some ⟨g, 0, none⟩) n uc) n (fun j => ts.getD j C0) kv) := ((HO1.out.below HBt.out).below (below_box _)).mono (by omega)
        have HKW : Hid ((w4.alloc (.cells #[] 41)).ownsRow lo 2 1 (.slice ka xl.length kc) xl.length (ints xl)) := (HKU1.out.kept (grown_of_below HBt.out) (by cases Value.ownBlock (.slice ka xl.length kc) <;> simp)).alloc _
        have HBX : Hid ((w4.alloc (.cells #[] 41)).heap[w.heap.size]? = some (.cells #[.int .i64 xp, .int .i64 xq, .int .i64 xv, .slice ka xl.length kc, .int .i64 xx, .int .i64 xy, .int .i64 xh, .bool xm] 41 (0, 0))) := (keepb (keepb T1.out HBt.out).out (below_box _)).out
        have HBW : Hid (Below w.heap.size w (w4.alloc (.cells #[] 41))) := (((below_box _).trans (HBt.out.mono (by simp))).trans ((below_box _).mono (by omega)))
        have hkc : (j : Int) ≤ (uc : Int) := by omega
        have hkn : (j : Int) ≤ (n : Int) := by omega
        have hk0 : (0 : Int) ≤ (j : Int) := by omega
        by_cases hucj : uc = j
        · obtain ⟨g1, c1, w3, g2, c2, w5, g3, c3, w6, hr1, hr2, hr3, hg3, HPUT⟩ := coin_put (x := (⟨xp, xq, xv, xl, xx, xy, xh, xm⟩ : Co)) (k := j) (o8 := 0) HL.out HOW.out (heap_alloc_new w4 (.cells #[] 41)) hloW (by omega) (by omega) HKW.out rfl HAP.out (.inr (by omega))
          have HB3 : Hid (w3.heap[w.heap.size]? = some (.cells #[.int .i64 xp, .int .i64 xq, .int .i64 xv, .slice ka xl.length kc, .int .i64 xx, .int .i64 xy, .int .i64 xh, .bool xm] 41 (0, 0))) := (hg3.block w.heap.size (by simp; omega) (by intro e; have := Option.some.inj e; omega)).trans HBX.out
          obtain ⟨⟨y0, y1, y2, y3, y4, y5, y6, y7⟩, _⟩ := cells8 HB3.out
          have HFIN : Hid (AddB w w6 (.returned (.slice (some ⟨g3, 0, none⟩) (n + 1) c3)) lo n (addC ts (⟨xp, xq, xv, xl, xx, xy, xh, xm⟩ : Co)) kv (.slice ka xl.length kc)) := ⟨g3, c3, rfl, by rw [HSP.out]; exact HPUT.out.1, HBW.out.trans (HPUT.out.2.mono (by omega))⟩
          clear hg3 HPUT HB3
          go_wp2_with (first | (at_builtin; go_must (refine wpList_append_runC (by rfl) _ _ _ (by rfl) (by rfl) (by rfl) (hr1 _) ?_); clear hr1))
          go_region_law (first
            | (have hra := hr2; clear hr2; refine step_append_runD (by rfl) _ _ _ (by rfl) (by rfl) (by rfl) hra ?_; clear hra)
            | (refine step_append_runD (by rfl) _ _ _ (by rfl) (by rfl) (by rfl) (hr3 _ _ (by omega)) ?_))
          all_goals
            go_wp2
            go_ret
            exact HFIN.out
        · obtain ⟨g1, c1, w3, g2, c2, w5, g3, c3, w6, hr1, hr2, hr3, hg3, HPUT⟩ := coin_put (x := (⟨xp, xq, xv, xl, xx, xy, xh, xm⟩ : Co)) (k := j) (o8 := j * 8) HL.out HOW.out (heap_alloc_new w4 (.cells #[] 41)) hloW (by omega) (by omega) HKW.out rfl HAP.out (.inl rfl)
          have HB3 : Hid (w3.heap[w.heap.size]? = some (.cells #[.int .i64 xp, .int .i64 xq, .int .i64 xv, .slice ka xl.length kc, .int .i64 xx, .int .i64 xy, .int .i64 xh, .bool xm] 41 (0, 0))) := (hg3.block w.heap.size (by simp; omega) (by intro e; have := Option.some.inj e; omega)).trans HBX.out
          obtain ⟨⟨y0, y1, y2, y3, y4, y5, y6, y7⟩, _⟩ := cells8 HB3.out
          have HFIN : Hid (AddB w w6 (.returned (.slice (some ⟨g3, 0, none⟩) (n + 1) c3)) lo n (addC ts (⟨xp, xq, xv, xl, xx, xy, xh, xm⟩ : Co)) kv (.slice ka xl.length kc)) := ⟨g3, c3, rfl, by rw [HSP.out]; exact HPUT.out.1, HBW.out.trans (HPUT.out.2.mono (by omega))⟩
          clear hg3 HPUT HB3
          go_wp2_with (first | (at_builtin; go_must (refine wpList_append_runC (by rfl) _ _ _ (by rfl) (by rfl) (by rfl) (hr1 _) ?_); clear hr1))
          go_region_law (first
            | (have hra := hr2; clear hr2; refine step_append_runD (by rfl) _ _ _ (by rfl) (by rfl) (by rfl) hra ?_; clear hra)
            | (refine step_append_runD (by rfl) _ _ _ (by rfl) (by rfl) (by rfl) (hr3 _ _ (by omega)) ?_))
          all_goals
            go_wp2
            go_ret
            exact HFIN.out
      · have HIN : Hid (∀ t, t < j + 1 → 0 < cmpR (xp, xq) ((ts.getD t C0).p, (ts.getD t C0).q)) := fun t ht => by
          rcases Nat.lt_or_ge t j with h1 | h1
          · exact HI.out t h1
          · obtain rfl : t = j := by omega
            rw [← HS.out]
            exact of_decide_eq_true HKB.out.symm
        go_wp2
        go_roundw
        case rel => exact ⟨j + 1, by omega, by go_num, hbel.trans (hb4.mono hbel.size), HIN⟩
        case measure => simp [intOf]; omega
    · have hki : ¬ (j : Int) < (n : Int) := by omega
      have hd : decide (j < n) = false := decide_eq_false hlt
      have HST : Hid (j < ts.length → ¬ 0 < cmpR (xp, xq) ((ts.getD j C0).p, (ts.getD j C0).q)) := fun h => by rw [HL.out] at h; omega
      have HSP : Hid (addC ts (⟨xp, xq, xv, xl, xx, xy, xh, xm⟩ : Co) = ts.take j ++ (⟨xp, xq, xv, xl, xx, xy, xh, xm⟩ : Co) :: ts.drop j) := addC_split (by rw [HL.out]; omega) HI.out HST.out
      clear HST
      go_wp2
      go_quiet (fail)
      obtain ⟨wt, hwt⟩ : ∃ W, W = wr.drewN nq := ⟨_, rfl⟩
      have HBt : Hid (Below (w.alloc (.cells #[.int .i64 xp, .int .i64 xq, .int .i64 xv, .slice ka xl.length kc, .int .i64 xx, .int .i64 xy, .int .i64 xh, .bool xm] 41)).heap.size (w.alloc (.cells #[.int .i64 xp, .int .i64 xq, .int .i64 xv, .slice ka xl.length kc, .int .i64 xx, .int .i64 xy, .int .i64 xh, .bool xm] 41)) wt) := by rw [hwt]; exact hbel.trans (Joins.below_draws _ _ _)
      rw [← hwt]
      clear hbel hwt
      have hsW : w.heap.size < wt.heap.size := Nat.lt_of_lt_of_le (by simp) HBt.out.size
      have hloW : lo ≤ wt.heap.size := by omega
      have HOW : Hid (COwn (wt.alloc (.cells #[] 41)) lo wt.heap.size (.slice (some ⟨g, 0, none⟩) n uc) n (fun j => ts.getD j C0) kv) := ((HO1.out.below HBt.out).below (below_box _)).mono (by omega)
      have HKW : Hid ((wt.alloc (.cells #[] 41)).ownsRow lo 2 1 (.slice ka xl.length kc) xl.length (ints xl)) := (HKU1.out.kept (grown_of_below HBt.out) (by cases Value.ownBlock (.slice ka xl.length kc) <;> simp)).alloc _
      have HBX : Hid ((wt.alloc (.cells #[] 41)).heap[w.heap.size]? = some (.cells #[.int .i64 xp, .int .i64 xq, .int .i64 xv, .slice ka xl.length kc, .int .i64 xx, .int .i64 xy, .int .i64 xh, .bool xm] 41 (0, 0))) := (keepb (keepb T1.out HBt.out).out (below_box _)).out
      have HBW : Hid (Below w.heap.size w (wt.alloc (.cells #[] 41))) := (((below_box _).trans (HBt.out.mono (by simp))).trans ((below_box _).mono (by omega)))
      have hkc : (j : Int) ≤ (uc : Int) := by omega
      have hkn : (j : Int) ≤ (n : Int) := by omega
      have hk0 : (0 : Int) ≤ (j : Int) := by omega
      by_cases hucj : uc = j
      · obtain ⟨g1, c1, w3, g2, c2, w5, g3, c3, w6, hr1, hr2, hr3, hg3, HPUT⟩ := coin_put (x := (⟨xp, xq, xv, xl, xx, xy, xh, xm⟩ : Co)) (k := j) (o8 := 0) HL.out HOW.out (heap_alloc_new wt (.cells #[] 41)) hloW (by omega) (by omega) HKW.out rfl HAP.out (.inr (by omega))
        have HB3 : Hid (w3.heap[w.heap.size]? = some (.cells #[.int .i64 xp, .int .i64 xq, .int .i64 xv, .slice ka xl.length kc, .int .i64 xx, .int .i64 xy, .int .i64 xh, .bool xm] 41 (0, 0))) := (hg3.block w.heap.size (by simp; omega) (by intro e; have := Option.some.inj e; omega)).trans HBX.out
        obtain ⟨⟨y0, y1, y2, y3, y4, y5, y6, y7⟩, _⟩ := cells8 HB3.out
        have HFIN : Hid (AddB w w6 (.returned (.slice (some ⟨g3, 0, none⟩) (n + 1) c3)) lo n (addC ts (⟨xp, xq, xv, xl, xx, xy, xh, xm⟩ : Co)) kv (.slice ka xl.length kc)) := ⟨g3, c3, rfl, by rw [HSP.out]; exact HPUT.out.1, HBW.out.trans (HPUT.out.2.mono (by omega))⟩
        clear hg3 HPUT HB3
        go_wp2_with (first | (at_builtin; go_must (refine wpList_append_runC (by rfl) _ _ _ (by rfl) (by rfl) (by rfl) (hr1 _) ?_); clear hr1))
        go_region_law (first
          | (have hra := hr2; clear hr2; refine step_append_runD (by rfl) _ _ _ (by rfl) (by rfl) (by rfl) hra ?_; clear hra)
          | (refine step_append_runD (by rfl) _ _ _ (by rfl) (by rfl) (by rfl) (hr3 _ _ (by omega)) ?_))
        all_goals
          go_wp2
          go_ret
          exact HFIN.out
      · obtain ⟨g1, c1, w3, g2, c2, w5, g3, c3, w6, hr1, hr2, hr3, hg3, HPUT⟩ := coin_put (x := (⟨xp, xq, xv, xl, xx, xy, xh, xm⟩ : Co)) (k := j) (o8 := j * 8) HL.out HOW.out (heap_alloc_new wt (.cells #[] 41)) hloW (by omega) (by omega) HKW.out rfl HAP.out (.inl rfl)
        have HB3 : Hid (w3.heap[w.heap.size]? = some (.cells #[.int .i64 xp, .int .i64 xq, .int .i64 xv, .slice ka xl.length kc, .int .i64 xx, .int .i64 xy, .int .i64 xh, .bool xm] 41 (0, 0))) := (hg3.block w.heap.size (by simp; omega) (by intro e; have := Option.some.inj e; omega)).trans HBX.out
        obtain ⟨⟨y0, y1, y2, y3, y4, y5, y6, y7⟩, _⟩ := cells8 HB3.out
        have HFIN : Hid (AddB w w6 (.returned (.slice (some ⟨g3, 0, none⟩) (n + 1) c3)) lo n (addC ts (⟨xp, xq, xv, xl, xx, xy, xh, xm⟩ : Co)) kv (.slice ka xl.length kc)) := ⟨g3, c3, rfl, by rw [HSP.out]; exact HPUT.out.1, HBW.out.trans (HPUT.out.2.mono (by omega))⟩
        clear hg3 HPUT HB3
        go_wp2_with (first | (at_builtin; go_must (refine wpList_append_runC (by rfl) _ _ _ (by rfl) (by rfl) (by rfl) (hr1 _) ?_); clear hr1))
        go_region_law (first
          | (have hra := hr2; clear hr2; refine step_append_runD (by rfl) _ _ _ (by rfl) (by rfl) (by rfl) hra ?_; clear hra)
          | (refine step_append_runD (by rfl) _ _ _ (by rfl) (by rfl) (by rfl) (hr3 _ _ (by omega)) ?_))
        all_goals
          go_wp2
          go_ret
          exact HFIN.out

theorem l4Add_any (g n uc lo kc : Nat) (ka : Option Addr) (ts : List Co) (kv : Nat → Value) (xp xq xv : Int) (xl : List Int) (xx xy xh : Int) (xm : Bool) (w : World) (hl : ts.length = n) (hn : n ≤ 100) (hk : ∀ j, j < n → (ts.getD j C0).l.length ≤ 1048576) (hlo : lo ≤ w.heap.size)
    (hO : COwn w lo w.heap.size (.slice (some ⟨g, 0, none⟩) n uc) n (fun j => ts.getD j C0) kv) (hku : w.ownsRow lo 2 1 (.slice ka xl.length kc) xl.length (ints xl)) (hap : ∀ i, i < n → ∀ b, (kv i).ownBlock = some b → Value.ownBlock (.slice ka xl.length kc) ≠ some b) :
    Calls Try.prog 53 #[.slice (some ⟨g, 0, none⟩) n uc, .agg #[.int .i64 xp, .int .i64 xq, .int .i64 xv, .slice ka xl.length kc, .int .i64 xx, .int .i64 xy, .int .i64 xh, .bool xm]] w fun e w' => AddO w w' e lo (n + 1) (addC ts (⟨xp, xq, xv, xl, xx, xy, xh, xm⟩ : Co)) :=
  (l4AddB_any g n uc lo kc ka ts kv xp xq xv xl xx xy xh xm w hl hn hk hlo hO hku hap).mono fun _ _ ⟨g, c, h1, ⟨kv', h2, _⟩, h3⟩ => ⟨g, c, h1, ⟨kv', h2⟩, h3.mono hlo⟩

end Go.Proofs.Ytdfijlcjmllplaa
