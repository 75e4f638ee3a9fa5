/- The walk of the law FnMembers. -/
import Derived.Test.YtgfhnmjpkanikaaFq
import Derived.Test.YtgfhnmjpkanikaaEu
import Derived.Test.YtgfhnmjpkanikaaEb
import Derived.Test.YtgfhnmjpkanikaaEf
import Derived.Lib.QuietBelow
namespace Go.Proofs.Ytgfhnmjpkanikaa
open Go.RowKit Go.Shelf Go.Maps Go.WideMaps

theorem oown_atM {w : World} {lo hi c : Nat} {a : Option Addr} {os : List Ou} {kv : Nat → Value} (h : OOwn w lo hi (.slice a os.length c) os.length (fun j => os.getD j O0) kv) (hl : ∀ j, j < os.length → (os.getD j O0).l.length ≤ 1048576) : OAt w a os.length os := by
  by_cases hn : os.length = 0
  · exact ⟨rfl, .inl hn⟩
  obtain ⟨xs, h1, _⟩ := h.row
  obtain ⟨g, cap, e⟩ := Joins.ownsRow_form h1 (by omega)
  cases e
  exact h.at rfl hl
theorem lwBigMs_any (cn cc : Nat) (ca : Option Addr) (w : World) : Calls Try.prog 4 #[.slice ca cn cc] w fun e w' => e = .returned (.bool (decide ((1048576 : Int) < (cn : Int)))) ∧ w' = w := by
  go_enter Try.func4, Try.ntmps4
  go_wp2
  go_ret
  exact ⟨rfl, rfl⟩
theorem fieldM0 (c : Int) (v : Value) (W : World) : (Instr.field 32 (.agg #[.int .i64 c, v]) 0).run Try.prog W = .ok (.int .i64 c) W := by kernel_rfl
theorem fieldM1 (c : Int) (va : Option Addr) (n vc : Nat) (W : World) : (Instr.field 32 (.agg #[.int .i64 c, .slice va n vc]) 1).run Try.prog W = .ok (.slice va n vc) W := by kernel_rfl
/-- What the law's loops stand on: all that was laid ahead of them. -/
structure Bm (w V : World) (T X Y : Nat) (k f id : Int) (g n lc : Nat) (ms : List Mb) (ia : Option Addr) (nr ic : Nat) (rs : List (Int × Int)) (oa : Option Addr) (no oc : Nat) (os : List Ou) (va : Option Addr) (ln vc : Nat) (tl : List Mb) (mc : Int) (vb : Option Addr) (lm vd : Nat) (ml : List Mb) : Prop where
  bel : Below w.heap.size w V
  ms : MAt V (some ⟨g, 0, none⟩) n ms
  tx : TxAt V ia nr oa no rs os
  hib : ∀ b o, ia = some ⟨b, o, none⟩ → b < V.heap.size
  tl : MAt V va ln tl
  ml : MAt V vb lm ml
  bT : V.heap[T]? = some (.cells #[.int .i64 k, .int .i64 f, .slice ia nr ic, .slice oa no oc] 28 (0, 0))
  bX : V.heap[X]? = some (.cells #[.int .i64 0, .slice va ln vc] 32 (0, 0))
  bY : V.heap[Y]? = some (.cells #[.int .i64 mc, .slice vb lm vd] 32 (0, 0))
theorem Bm.step {w V W : World} {T X Y : Nat} {k f id : Int} {g n lc : Nat} {ms : List Mb} {ia : Option Addr} {nr ic : Nat} {rs : List (Int × Int)} {oa : Option Addr} {no oc : Nat} {os : List Ou} {va : Option Addr} {ln vc : Nat} {tl : List Mb} {mc : Int} {vb : Option Addr} {lm vd : Nat} {ml : List Mb} (H : Bm w V T X Y k f id g n lc ms ia nr ic rs oa no oc os va ln vc tl mc vb lm vd ml) (hb : Below V.heap.size V W) : Bm w W T X Y k f id g n lc ms ia nr ic rs oa no oc os va ln vc tl mc vb lm vd ml :=
  ⟨H.bel.trans (hb.mono H.bel.size), H.ms.below hb (Nat.le_refl _), H.tx.below hb (Nat.le_refl _), fun b o e => Nat.lt_of_lt_of_le (H.hib b o e) hb.size, H.tl.below hb (Nat.le_refl _), H.ml.below hb (Nat.le_refl _), (keepb H.bT hb).out, (keepb H.bX hb).out, (keepb H.bY hb).out⟩
theorem mat_cells {V : World} {a : Option Addr} {n j : Nat} {l : List Mb} (h : MAt V a n l) (hj : j < n) : ∃ b off, a = some ⟨b, off, none⟩ ∧ V.cell? ⟨b, off + j * 3, none⟩ = some (.int .i64 (l.getD j Z3).1) ∧ V.cell? ⟨b, off + j * 3 + 1, none⟩ = some (.int .i64 (l.getD j Z3).2.1) ∧ V.cell? ⟨b, off + j * 3 + 2, none⟩ = some (.int .i64 (l.getD j Z3).2.2) := by
  obtain ⟨_, h | ⟨b, off, e, _, hc⟩⟩ := h
  · omega
  · exact ⟨b, off, e, (hc j hj).1, (hc j hj).2.1, (hc j hj).2.2⟩
theorem gat_cells {V : World} {a : Option Addr} {n j : Nat} {l : List (Int × Int)} (h : GAt V a n l) (hj : j < n) : ∃ b off, a = some ⟨b, off, none⟩ ∧ V.cell? ⟨b, off + j * 2, none⟩ = some (.int .i64 (l.getD j (0, 0)).1) ∧ V.cell? ⟨b, off + j * 2 + 1, none⟩ = some (.int .i64 (l.getD j (0, 0)).2) := by
  obtain ⟨_, h | ⟨b, off, e, _, hc⟩⟩ := h
  · omega
  · exact ⟨b, off, e, (hc j hj).1, (hc j hj).2⟩

set_option maxRecDepth 20000 in
set_option maxHeartbeats 8000000 in
theorem lawMembers (cn cc : Nat) (ca : Option Addr) (l : List Int) (w : World) (hB : BAt w ca cn l) :
    Calls Try.prog 3 #[.slice ca cn cc] w fun e w' => e = .returned (.bool true) ∧ Below w.heap.size w w' := by
  have hmix : Try.prog.follows .mixedOrders = true := by kernel_rfl
  have hbig := lwBigMs_any cn cc ca w
  by_cases hb : 1048576 < cn
  · have hd : decide ((1048576 : Int) < (cn : Int)) = true := decide_eq_true (by omega)
    rw [hd] at hbig
    go_enter Try.func3, Try.ntmps3
    go_wp2_with (go_at_call 4; (with_reducible refine hbig.mono ?_); clear hbig; rintro e w1 ⟨rfl, hw⟩; have hw2 := hw.symm; subst hw2)
    go_ret
    exact ⟨rfl, Below.refl _ _⟩
  have hd : decide ((1048576 : Int) < (cn : Int)) = false := decide_eq_false (by omega)
  rw [hd] at hbig
  have hdr := drawTakeMembers_any ca cn cc l w (by omega) hB
  clear hB hd
  go_enter Try.func3, Try.ntmps3
  go_wp2_with (first
    | (go_at_call 4; (with_reducible refine hbig.mono ?_); clear hbig; rintro e w1 ⟨rfl, hw⟩; have hw2 := hw.symm; subst hw2))
  refine hdr.mono ?_
  rintro e v ⟨ms, g, lc, k, f, ia, ic, rs, oa, oc, os, id, rfl, hm9, HKT, HM, HR, HO, HBV⟩
  obtain ⟨n, hn⟩ : ∃ q, q = ms.length := ⟨_, rfl⟩
  obtain ⟨nr, hnr⟩ : ∃ q, q = rs.length := ⟨_, rfl⟩
  obtain ⟨no, hno⟩ : ∃ q, q = os.length := ⟨_, rfl⟩
  have HKL : Hid (∀ j, j < no → (os.getD j O0).l.length ≤ 1048576) := fun j hj => by have := HKT.out.2.2 _ (getD_mem (d := O0) (show j < os.length by omega)); omega
  have HCAP : Hid (nr ≤ ic ∧ ic ≤ maxLen) := by
    rw [hnr]
    rcases HR.out.2 with ⟨e, h0⟩ | ⟨g', c', cur, e, _, _, q1, q2, _⟩
    · injection e with _ _ e3
      rw [e3, h0]; exact ⟨Nat.le_refl _, Nat.zero_le _⟩
    · injection e with _ _ e3
      rw [e3]; exact ⟨q1, q2⟩
  have HMV : Hid (MAt v (some ⟨g, 0, none⟩) n ms) := by rw [hn]; exact mat_own HM.out rfl
  have HTV : Hid (TxAt v ia nr oa no rs os) := by
    rw [hnr, hno]
    obtain ⟨kv, hk⟩ := HO.out
    exact ⟨gat_ref HR.out rfl, oown_atM hk (fun j hj => HKL.out j (by omega))⟩
  have HIB : Hid (∀ b o, ia = some ⟨b, o, none⟩ → b < v.heap.size) := fun b o e => by
    subst e
    by_cases h0 : rs.length = 0
    · rcases HR.out.2 with ⟨e, _⟩ | ⟨g', c', cur, e, _, hh, _⟩
      · cases e
      · cases e; exact lt_of_block hh
    · exact (HR.out.lt b rfl).2
  have hn9 : n ≤ 9 := by omega
  have hnr3 : nr ≤ 3 := by have := HKT.out.1; omega
  have hno5 : no ≤ 5 := by have := HKT.out.2.1; omega
  have HN : Hid (ms.length = n) := hn.symm
  have HNR : Hid (rs.length = nr) := hnr.symm
  rw [← hn, ← hnr, ← hno]
  clear HM HR HO hn hnr hno hm9 HKT hdr
  obtain ⟨cd, hcd⟩ : ∃ q, q = (tmR ms k f rs os id).1 := ⟨_, rfl⟩
  obtain ⟨tl, htl⟩ : ∃ q, q = (tmR ms k f rs os id).2 := ⟨_, rfl⟩
  obtain ⟨ln, hln⟩ : ∃ q, q = tl.length := ⟨_, rfl⟩
  have HTM : Hid ((tmR ms k f rs os id).1 = cd ∧ (tmR ms k f rs os id).2 = tl ∧ tl.length = ln) := ⟨hcd.symm, htl.symm, hln.symm⟩
  have hz1 : (v.alloc (.cells #[.int .i64 k, .int .i64 f, .slice ia nr ic, .slice oa no oc] 28)).heap.size = v.heap.size + 1 := by simp
  have HT1 : Hid (∀ W, Below (v.heap.size + 1) (v.alloc (.cells #[.int .i64 k, .int .i64 f, .slice ia nr ic, .slice oa no oc] 28)) W → MAt W (some ⟨g, 0, none⟩) n ms ∧ TxAt W ia nr oa no rs os ∧ (∀ b o, ia = some ⟨b, o, none⟩ → b < W.heap.size) ∧ W.heap[v.heap.size]? = some (.cells #[.int .i64 k, .int .i64 f, .slice ia nr ic, .slice oa no oc] 28 (0, 0)) ∧ Below w.heap.size w W) := fun W hW => by
    have hb : Below v.heap.size v W := (below_box _).trans (hW.mono (by omega))
    exact ⟨HMV.out.below hb (Nat.le_refl _), HTV.out.below hb (Nat.le_refl _), fun b o e => Nat.lt_of_lt_of_le (HIB.out b o e) hb.size, (hW.block _ (by omega)).trans (heap_alloc_new _ _), HBV.out.trans (hb.mono HBV.out.size)⟩
  have HIT : Hid (∀ W, Below (v.heap.size + 1) (v.alloc (.cells #[.int .i64 k, .int .i64 f, .slice ia nr ic, .slice oa no oc] 28)) W → Calls Try.prog 6 #[.slice (some ⟨g, 0, none⟩) n lc, .agg #[.int .i64 k, .int .i64 f, .slice ia nr ic, .slice oa no oc], .int .i64 id] W fun e w' => ∃ va vc, e = .returned (.agg #[.int .i64 cd, .slice va ln vc]) ∧ w'.ownsRow W.heap.size 38 3 (.slice va ln vc) ln (mcells tl) ∧ Below W.heap.size W w') := fun W hW => by
    obtain ⟨a1, a2, a3, _⟩ := HT1.out W hW
    have := iTakeMembers_any n lc nr ic no oc (some ⟨g, 0, none⟩) ia oa ms k f id rs os W (by omega) (by omega) (by omega) HCAP.out.1 HCAP.out.2 HKL.out a1 a2 a3
    rw [HTM.out.1, HTM.out.2.1] at this
    refine this.mono fun e w' ⟨va, vc, e1, e2, e3⟩ => ?_
    rw [HTM.out.2.2] at e1 e2
    exact ⟨va, vc, e1, e2, e3⟩
  have HST : Hid (∀ W, Below (v.heap.size + 1) (v.alloc (.cells #[.int .i64 k, .int .i64 f, .slice ia nr ic, .slice oa no oc] 28)) W → Calls Try.prog 7 #[.slice (some ⟨g, 0, none⟩) n lc, .agg #[.int .i64 k, .int .i64 f, .slice ia nr ic, .slice oa no oc], .int .i64 id] W fun e w' => ∃ va vc, e = .returned (.agg #[.int .i64 cd, .slice va ln vc]) ∧ w'.ownsRow W.heap.size 38 3 (.slice va ln vc) ln (mcells tl) ∧ Below W.heap.size W w') := fun W hW => by
    obtain ⟨a1, a2, a3, _⟩ := HT1.out W hW
    have := sTakeMembers_any n lc nr ic no oc (some ⟨g, 0, none⟩) ia oa ms k f id rs os W (by omega) (by omega) (by omega) HCAP.out.1 HCAP.out.2 HKL.out a1 a2
    rw [HTM.out.1, HTM.out.2.1] at this
    refine this.mono fun e w' ⟨va, vc, e1, e2, e3⟩ => ?_
    rw [HTM.out.2.2] at e1 e2
    exact ⟨va, vc, e1, e2, e3⟩
  have hi := HIT.out (v.alloc (.cells #[.int .i64 k, .int .i64 f, .slice ia nr ic, .slice oa no oc] 28)) (Below.refl _ _)
  have c0 : (v.alloc (.cells #[.int .i64 k, .int .i64 f, .slice ia nr ic, .slice oa no oc] 28)).cell? ⟨v.heap.size, 0, none⟩ = some (.int .i64 k) := (cells4 (HT1.out _ (Below.refl _ _)).2.2.2.1).1
  clear hcd htl hln HMV HTV HIB
  rw [hz1] at hi
  by_cases h0 : cd = 0
  rotate_left
  · have hcb : (cd != 0) = true := by simpa using h0
    have hf0 := fieldM0 cd
    go_wp2_with (first
      | (go_at_call 6; (with_reducible refine hi.mono ?_); clear hi; rintro e v3 ⟨va, vc, rfl, hO3, hb3⟩; have HO3 : Hid ((v3.alloc (.cells #[.int .i64 cd, .slice va ln vc] 32)).ownsRow (v.heap.size + 1) 38 3 (.slice va ln vc) ln (mcells tl)) := hO3.alloc _; have HB3 : Hid (Below (v.heap.size + 1) (v.alloc (.cells #[.int .i64 k, .int .i64 f, .slice ia nr ic, .slice oa no oc] 28)) (v3.alloc (.cells #[.int .i64 cd, .slice va ln vc] 32))) := hb3.trans ((below_box _).mono (by have := hb3.size; rw [hz1] at this; exact this)); have HX3 : Hid ((v3.alloc (.cells #[.int .i64 cd, .slice va ln vc] 32)).heap[v3.heap.size]? = some (.cells #[.int .i64 cd, .slice va ln vc] 32 (0, 0))) := heap_alloc_new _ _; clear hO3 hb3))
    obtain ⟨V, hV⟩ : ∃ V, V = v3.alloc (.cells #[.int .i64 cd, .slice va ln vc] 32) := ⟨_, rfl⟩
    obtain ⟨X, hX⟩ : ∃ X, X = v3.heap.size := ⟨_, rfl⟩
    obtain ⟨T, hT⟩ : ∃ X, X = v.heap.size := ⟨_, rfl⟩
    rw [← hV, ← hX] at HX3
    rw [← hV] at HB3
    obtain ⟨x0, x1⟩ := cells2 HX3.out
    obtain ⟨t0, t1, t2, t3, _⟩ := cells4 (HT1.out V HB3.out).2.2.2.1
    rw [← hT] at t0 t1 t2 t3
    rw [← hV, ← hX, ← hT]
    have hXl : X < V.heap.size := lt_of_block HX3.out
    have hTl : T < V.heap.size := by rw [hT]; exact lt_of_block (HT1.out V HB3.out).2.2.2.1
    have HQ : Hid (∀ W, Below V.heap.size V W → Calls Try.prog 7 #[.slice (some ⟨g, 0, none⟩) n lc, .agg #[.int .i64 k, .int .i64 f, .slice ia nr ic, .slice oa no oc], .int .i64 id] W fun e w' => ∃ va vc, e = .returned (.agg #[.int .i64 cd, .slice va ln vc]) ∧ w'.ownsRow W.heap.size 38 3 (.slice va ln vc) ln (mcells tl) ∧ Below W.heap.size W w') := fun W hW => HST.out W (HB3.out.trans (hW.mono (by rw [← hz1]; exact HB3.out.size)))
    have HE : Hid (∀ W, Below V.heap.size V W → Below w.heap.size w W) := fun W hW => (HT1.out V HB3.out).2.2.2.2.trans (hW.mono (HT1.out V HB3.out).2.2.2.2.size)
    clear hV hX hT HT1 HB3 HO3
    go_wp2
    go_region_held3 (fun w' => w'.cell? ⟨T, 0, none⟩ = some (.int .i64 k) ∧ w'.cell? ⟨T, 1, none⟩ = some (.int .i64 f) ∧ w'.cell? ⟨T, 2, none⟩ = some (.slice ia nr ic) ∧ w'.cell? ⟨T, 3, none⟩ = some (.slice oa no oc) ∧ w'.cell? ⟨X, 0, none⟩ = some (.int .i64 cd)) (first | (with_reducible exact ⟨t0, t1, t2, t3, x0⟩) | (with_reducible exact ⟨y0, y1, y2, y3, y4⟩) | go_keep)
      (first
        | (go_at_call 7; (with_reducible refine (HQ.out _ (Below.refl _ _).drew).mono ?_); clear HQ; rintro e v5 ⟨va5, vc5, rfl, _, hb5⟩; have HB5 : Hid (Below V.heap.size V v5) := (Below.refl _ _).drew.trans hb5; have y0 := (HB5.out.cell (p := ⟨T, 0, none⟩) hTl).trans t0; have y1 := (HB5.out.cell (p := ⟨T, 1, none⟩) hTl).trans t1; have y2 := (HB5.out.cell (p := ⟨T, 2, none⟩) hTl).trans t2; have y3 := (HB5.out.cell (p := ⟨T, 3, none⟩) hTl).trans t3; have y4 := (HB5.out.cell (p := ⟨X, 0, none⟩) hXl).trans x0))
    all_goals (try go_wp2)
    all_goals go_ret
    all_goals exact ⟨by simp, HE.out _ HB5.out⟩
  subst h0
  obtain ⟨q1, q2, q3, q4, q5⟩ := tm_parts HTM.out.1
  rw [HTM.out.2.1] at q2 q3 q4 q5
  have HP : Hid (MOk ms ∧ MOk tl ∧ (∀ m ∈ tl, m.1 ≠ f → m ∈ ms ∧ m.2 ∉ rs) ∧ (k = 1 → (f, id, 0) ∈ tl) ∧ (k = 2 → ∀ m ∈ tl, m.1 ≠ f)) := ⟨q1, q2, q3, q4, q5⟩
  have hln8 : ln ≤ 8 := by have := q2.few; rw [HTM.out.2.2] at this; exact this
  clear q1 q2 q3 q4 q5
  go_wp2_with (first
    | (go_at_call 6; (with_reducible refine hi.mono ?_); clear hi; rintro e v3 ⟨va, vc, rfl, hO3, hb3⟩; have HO3 : Hid ((v3.alloc (.cells #[.int .i64 0, .slice va ln vc] 32)).ownsRow (v.heap.size + 1) 38 3 (.slice va ln vc) ln (mcells tl)) := hO3.alloc _; have HB3 : Hid (Below (v.heap.size + 1) (v.alloc (.cells #[.int .i64 k, .int .i64 f, .slice ia nr ic, .slice oa no oc] 28)) (v3.alloc (.cells #[.int .i64 0, .slice va ln vc] 32))) := hb3.trans ((below_box _).mono (by have := hb3.size; rw [hz1] at this; exact this)); have HX3 : Hid ((v3.alloc (.cells #[.int .i64 0, .slice va ln vc] 32)).heap[v3.heap.size]? = some (.cells #[.int .i64 0, .slice va ln vc] 32 (0, 0))) := heap_alloc_new _ _; clear hO3 hb3; obtain ⟨x0, x1⟩ := cells2 HX3.out; obtain ⟨t0, t1, t2, t3, _⟩ := cells4 (HT1.out _ HB3.out).2.2.2.1))
  obtain ⟨V, hV⟩ : ∃ V, V = v3.alloc (.cells #[.int .i64 0, .slice va ln vc] 32) := ⟨_, rfl⟩
  obtain ⟨X, hX⟩ : ∃ X, X = v3.heap.size := ⟨_, rfl⟩
  obtain ⟨T, hT⟩ : ∃ X, X = v.heap.size := ⟨_, rfl⟩
  rw [← hV, ← hX] at HX3
  rw [← hV] at HB3 HO3
  rw [← hV, ← hX, ← hT]
  obtain ⟨b1, b2, b3, b4, b5⟩ := HT1.out V HB3.out
  rw [← hT] at b4
  have HV1 : Hid (Below w.heap.size w V ∧ MAt V (some ⟨g, 0, none⟩) n ms ∧ TxAt V ia nr oa no rs os ∧ (∀ b o, ia = some ⟨b, o, none⟩ → b < V.heap.size) ∧ MAt V va ln tl ∧ V.heap[T]? = some (.cells #[.int .i64 k, .int .i64 f, .slice ia nr ic, .slice oa no oc] 28 (0, 0)) ∧ V.heap[X]? = some (.cells #[.int .i64 0, .slice va ln vc] 32 (0, 0))) := ⟨b5, b1, b2, b3, mat_own HO3.out HTM.out.2.2, b4, HX3.out⟩
  have HSV : Hid (∀ W, Below V.heap.size V W → Calls Try.prog 7 #[.slice (some ⟨g, 0, none⟩) n lc, .agg #[.int .i64 k, .int .i64 f, .slice ia nr ic, .slice oa no oc], .int .i64 id] W fun e w' => ∃ va vc, e = .returned (.agg #[.int .i64 0, .slice va ln vc]) ∧ w'.ownsRow W.heap.size 38 3 (.slice va ln vc) ln (mcells tl) ∧ Below W.heap.size W w') := fun W hW => HST.out W (HB3.out.trans (hW.mono (by rw [← hz1]; exact HB3.out.size)))
  clear hV hX hT b1 b2 b3 b4 b5 HT1 HB3 HO3 HX3 HST HIT
  obtain ⟨mc, hmc⟩ : ∃ q, q = (memberR tl f).1 := ⟨_, rfl⟩
  obtain ⟨ml, hml⟩ : ∃ q, q = (memberR tl f).2 := ⟨_, rfl⟩
  obtain ⟨lm, hlm⟩ : ∃ q, q = ml.length := ⟨_, rfl⟩
  have HMR : Hid ((memberR tl f).1 = mc ∧ (memberR tl f).2 = ml ∧ ml.length = lm) := ⟨hmc.symm, hml.symm, hlm.symm⟩
  have hm := iMemberOf_any ln vc va tl f V (by omega) HV1.out.2.2.2.2.1
  rw [← hmc, ← hml] at hm
  clear hmc hml
  refine hm.mono ?_
  clear hm
  rintro e v5 ⟨vb, vd, rfl, hO5, hb5⟩
  rw [← hlm] at hO5 ⊢
  obtain ⟨Y, hY⟩ : ∃ X, X = v5.heap.size := ⟨_, rfl⟩
  have HBX : Hid (Bm w (v5.alloc (.cells #[.int .i64 mc, .slice vb lm vd] 32)) T X Y k f id g n lc ms ia nr ic rs oa no oc os va ln vc tl mc vb lm vd ml) := by
    have hb : Below V.heap.size V (v5.alloc (.cells #[.int .i64 mc, .slice vb lm vd] 32)) := hb5.trans ((below_box _).mono hb5.size)
    obtain ⟨a0, a1, a2, a3, a4, a5, a6⟩ := HV1.out
    rw [hY]
    exact ⟨a0.trans (hb.mono a0.size), a1.below hb (Nat.le_refl _), a2.below hb (Nat.le_refl _), fun b o e => Nat.lt_of_lt_of_le (a3 b o e) hb.size, a4.below hb (Nat.le_refl _), mat_own (hO5.alloc _) hlm.symm, (keepb a5 hb).out, (keepb a6 hb).out, heap_alloc_new _ _⟩
  have HSU : Hid (∀ W, Below V.heap.size V W → Calls Try.prog 7 #[.slice (some ⟨g, 0, none⟩) n lc, .agg #[.int .i64 k, .int .i64 f, .slice ia nr ic, .slice oa no oc], .int .i64 id] W fun e w' => ∃ va vc, e = .returned (.agg #[.int .i64 0, .slice va ln vc]) ∧ w'.ownsRow W.heap.size 38 3 (.slice va ln vc) ln (mcells tl) ∧ Below W.heap.size W w') := HSV.out
  have HVU : Hid (Below V.heap.size V (v5.alloc (.cells #[.int .i64 mc, .slice vb lm vd] 32))) := hb5.trans ((below_box _).mono hb5.size)
  clear hO5 hb5 hlm HSV HV1
  go_wp2
  rw [← hY]
  obtain ⟨U, hU⟩ : ∃ V, V = v5.alloc (.cells #[.int .i64 mc, .slice vb lm vd] 32) := ⟨_, rfl⟩
  rw [← hU] at HBX HVU ⊢
  clear hY hU
  go_loopw [8, 9, 10, 11] (fun i x y z wr => ∃ j : Nat, j ≤ ln ∧ i = .int .i64 j ∧ Hid (Bm w wr T X Y k f id g n lc ms ia nr ic rs oa no oc os va ln vc tl mc vb lm vd ml ∧ Below U.heap.size U wr)) (fun i x y z _ => ln - (intOf i).toNat)
  case atStart => exact ⟨0, Nat.zero_le _, rfl, HBX.out, Below.refl _ _⟩
  case round =>
    obtain ⟨j, hj, rfl, HI⟩ := hrel
    obtain ⟨x0, x1⟩ := cells2 HI.out.1.bX
    obtain ⟨t0, t1, t2, t3, _⟩ := cells4 HI.out.1.bT
    by_cases hlt : j < ln
    · have hji : (j : Int) < (ln : Int) := by omega
      obtain ⟨b, off, hva, d0, d1, d2⟩ := mat_cells HI.out.1.tl hlt
      obtain ⟨m, hm⟩ : ∃ o, o = tl.getD j Z3 := ⟨_, rfl⟩
      rw [← hm] at d0 d1 d2
      have HMI : Hid (m ∈ tl) := by rw [hm]; exact getD_mem (d := Z3) (by rw [HTM.out.2.2]; exact hlt)
      obtain ⟨m1, m2, m3⟩ := m
      simp only at d0 d1 d2
      clear hm
      subst hva
      have HJ : Hid (Bm w (wr.alloc (.cells #[.int .i64 m1, .int .i64 m2, .int .i64 m3] 38)) T X Y k f id g n lc ms ia nr ic rs oa no oc os (some ⟨b, off, none⟩) ln vc tl mc vb lm vd ml ∧ Below U.heap.size U (wr.alloc (.cells #[.int .i64 m1, .int .i64 m2, .int .i64 m3] 38))) := ⟨HI.out.1.step (below_box _), HI.out.2.trans ((below_box _).mono HI.out.2.size)⟩
      have HXM : Hid ((wr.alloc (.cells #[.int .i64 m1, .int .i64 m2, .int .i64 m3] 38)).heap[wr.heap.size]? = some (.cells #[.int .i64 m1, .int .i64 m2, .int .i64 m3] 38 (0, 0))) := heap_alloc_new _ _
      obtain ⟨z0, z1, z2⟩ := cells3 HXM.out
      obtain ⟨rc, hrc⟩ : ∃ q, q = (memberR ms m1).1 := ⟨_, rfl⟩
      obtain ⟨rl, hrl⟩ : ∃ q, q = (memberR ms m1).2 := ⟨_, rfl⟩
      obtain ⟨lr, hlr⟩ : ∃ q, q = rl.length := ⟨_, rfl⟩
      have HRR : Hid (memberR ms m1 = (rc, rl)) := by rw [hrc, hrl]; exact rfl
      have hmo := iMemberOf_any n lc (some ⟨g, 0, none⟩) ms m1 (wr.alloc (.cells #[.int .i64 m1, .int .i64 m2, .int .i64 m3] 38)) (by omega) HJ.out.1.ms
      rw [← hrc, ← hrl] at hmo
      have HLR : Hid (lr = rl.length) := hlr
      clear hrc hrl
      go_wp2_with fail
      refine hmo.mono ?_
      clear hmo
      rintro e v6 ⟨v6a, v6c, rfl, hO6, hb6⟩
      rw [← hlr] at hO6 ⊢
      obtain ⟨A, hA⟩ : ∃ x, x = wr.heap.size := ⟨_, rfl⟩
      obtain ⟨B, hBq⟩ : ∃ x, x = v6.heap.size := ⟨_, rfl⟩
      obtain ⟨W2, hW2⟩ : ∃ W, W = v6.alloc (.cells #[.int .i64 rc, .slice v6a lr v6c] 32) := ⟨_, rfl⟩
      have hb62 := hb6.trans ((below_box (.cells #[.int .i64 rc, .slice v6a lr v6c] 32)).mono hb6.size)
      have HW2 : Hid ((Bm w W2 T X Y k f id g n lc ms ia nr ic rs oa no oc os (some ⟨b, off, none⟩) ln vc tl mc vb lm vd ml ∧ Below U.heap.size U W2) ∧ W2.heap[A]? = some (.cells #[.int .i64 m1, .int .i64 m2, .int .i64 m3] 38 (0, 0)) ∧ W2.heap[B]? = some (.cells #[.int .i64 rc, .slice v6a lr v6c] 32 (0, 0)) ∧ MAt W2 v6a lr rl) := by
        rw [hW2, hA, hBq]
        exact ⟨⟨HJ.out.1.step hb62, HJ.out.2.trans (hb62.mono HJ.out.2.size)⟩, (keepb HXM.out hb62).out, heap_alloc_new _ _, mat_own (hO6.alloc _) hlr.symm⟩
      clear hO6 hb6 hb62 hlr HJ HXM HI x0 x1 t0 t1 t2 t3 d0 d1 d2 z0 z1 z2
      go_wp2
      rw [← hA, ← hBq, ← hW2]
      clear hA hBq hW2
      obtain ⟨z0, z1, z2⟩ := cells3 HW2.out.2.1
      obtain ⟨t0, t1, t2, t3, _⟩ := cells4 HW2.out.1.1.bT
      obtain ⟨y0, y1⟩ := cells2 HW2.out.2.2.1
      by_cases hmf : m1 = f
      · have e0 : (m1 != f) = false := by simp [hmf]
        clear hmf
        go_quiet (fail)
        go_wp2
        obtain ⟨W3, hW3⟩ : ∃ W, W = W2.drewN nq := ⟨_, rfl⟩
        have HW : Hid ((Bm w W3 T X Y k f id g n lc ms ia nr ic rs oa no oc os (some ⟨b, off, none⟩) ln vc tl mc vb lm vd ml ∧ Below U.heap.size U W3) ∧ W3.heap[A]? = some (.cells #[.int .i64 m1, .int .i64 m2, .int .i64 m3] 38 (0, 0))) := by
          rw [hW3]
          have hd : Below W2.heap.size W2 (W2.drewN nq) := Joins.below_draws _ _ _
          exact ⟨⟨HW2.out.1.1.step hd, HW2.out.1.2.trans (hd.mono HW2.out.1.2.size)⟩, (keepb HW2.out.2.1 hd).out⟩
        rw [← hW3]
        clear hW3 HW2 z0 z1 z2 t0 t1 t2 t3 y0 y1
        go_loopw [11] (fun i wr' => ∃ q : Nat, q ≤ nr ∧ i = .int .i64 q ∧ Hid ((Bm w wr' T X Y k f id g n lc ms ia nr ic rs oa no oc os (some ⟨b, off, none⟩) ln vc tl mc vb lm vd ml ∧ Below U.heap.size U wr') ∧ wr'.heap[A]? = some (.cells #[.int .i64 m1, .int .i64 m2, .int .i64 m3] 38 (0, 0)))) (fun i _ => nr - (intOf i).toNat)
        case atStart => exact ⟨0, Nat.zero_le _, rfl, HW.out⟩
        case round =>
          rename_i wr2
          obtain ⟨q, hq, rfl, HI⟩ := hrel
          obtain ⟨z0, z1, z2⟩ := cells3 HI.out.2
          obtain ⟨t0, t1, t2, t3, _⟩ := cells4 HI.out.1.1.bT
          by_cases hlq : q < nr
          · have hqi : (q : Int) < (nr : Int) := by omega
            obtain ⟨b2, off2, hia, r1, r2⟩ := gat_cells HI.out.1.1.tx.1 hlq
            obtain ⟨p1, hp1⟩ : ∃ x, x = (rs.getD q (0, 0)).1 := ⟨_, rfl⟩
            obtain ⟨p2, hp2⟩ : ∃ x, x = (rs.getD q (0, 0)).2 := ⟨_, rfl⟩
            rw [← hp1] at r1
            rw [← hp2] at r2
            have HRM : Hid ((p1, p2) ∈ rs) := by rw [hp1, hp2]; exact getD_mem (d := (0, 0)) (by rw [HNR.out]; exact hlq)
            clear hp1 hp2
            subst hia
            by_cases h1 : p1 = m2
            · have e1 : (p1 == m2) = true := by simpa using h1
              by_cases h2 : p2 = m3
              · have e2 : (p2 == m3) = true := by simpa using h2
                clear h1 h2
                go_wp2
                go_quiet (fail)
                go_wp2
                go_roundw
                case rel => exact ⟨q + 1, by omega, by go_num, ⟨HI.out.1.1.step (Joins.below_draws _ _ _), HI.out.1.2.trans ((Joins.below_draws _ _ _).mono HI.out.1.2.size)⟩, (keepb HI.out.2 (Joins.below_draws _ _ _)).out⟩
                case measure => simp [intOf]; omega
              · have e2 : (p2 == m3) = false := by simpa using h2
                clear h1 h2
                go_wp2
                go_quiet (fail)
                go_wp2
                go_roundw
                case rel => exact ⟨q + 1, by omega, by go_num, ⟨HI.out.1.1.step (Joins.below_draws _ _ _), HI.out.1.2.trans ((Joins.below_draws _ _ _).mono HI.out.1.2.size)⟩, (keepb HI.out.2 (Joins.below_draws _ _ _)).out⟩
                case measure => simp [intOf]; omega
            · have e1 : (p1 == m2) = false := by simpa using h1
              clear h1
              go_wp2
              go_quiet (fail)
              go_wp2
              go_roundw
              case rel => exact ⟨q + 1, by omega, by go_num, ⟨HI.out.1.1.step (Joins.below_draws _ _ _), HI.out.1.2.trans ((Joins.below_draws _ _ _).mono HI.out.1.2.size)⟩, (keepb HI.out.2 (Joins.below_draws _ _ _)).out⟩
              case measure => simp [intOf]; omega
          · have hqi : ¬ (q : Int) < (nr : Int) := by omega
            go_wp2
            go_roundw
            case rel => exact ⟨j + 1, by omega, by go_num, HI.out.1⟩
            case measure => simp [intOf]; omega
      · obtain ⟨hin, hni⟩ := HP.out.2.2.1 _ HMI.out hmf
        have hme := member_in HP.out.1 hin
        rw [HRR.out] at hme
        obtain ⟨hr0, hr1⟩ := Prod.mk.inj hme
        have hl1 : lr = 1 := by rw [HLR.out, hr1]; rfl
        have HNI : Hid ((m2, m3) ∉ rs) := hni
        obtain ⟨b6, o6, ha6, s0, s1, s2⟩ := mat_cells HW2.out.2.2.2 (show 0 < lr by omega)
        rw [hr1] at s0 s1 s2
        simp only [Nat.zero_mul, Nat.add_zero, List.getD_cons_zero] at s0 s1 s2
        subst hr0 hl1 ha6
        clear hin hni hme hr1
        have e0 : (m1 != f) = true := by simp [hmf]
        have e1 : (m1 == m1) = true := by simp
        have e2 : (m2 == m2) = true := by simp
        have e3 : (m3 == m3) = true := by simp
        clear hmf
        go_quiet (fail)
        go_wp2
        obtain ⟨W3, hW3⟩ : ∃ W, W = W2.drewN nq := ⟨_, rfl⟩
        have HW : Hid ((Bm w W3 T X Y k f id g n lc ms ia nr ic rs oa no oc os (some ⟨b, off, none⟩) ln vc tl mc vb lm vd ml ∧ Below U.heap.size U W3) ∧ W3.heap[A]? = some (.cells #[.int .i64 m1, .int .i64 m2, .int .i64 m3] 38 (0, 0))) := by
          rw [hW3]
          have hd : Below W2.heap.size W2 (W2.drewN nq) := Joins.below_draws _ _ _
          exact ⟨⟨HW2.out.1.1.step hd, HW2.out.1.2.trans (hd.mono HW2.out.1.2.size)⟩, (keepb HW2.out.2.1 hd).out⟩
        rw [← hW3]
        clear hW3 HW2 z0 z1 z2 t0 t1 t2 t3 y0 y1 s0 s1 s2 e1 e2 e3
        go_loopw [11] (fun i wr' => ∃ q : Nat, q ≤ nr ∧ i = .int .i64 q ∧ Hid ((Bm w wr' T X Y k f id g n lc ms ia nr ic rs oa no oc os (some ⟨b, off, none⟩) ln vc tl mc vb lm vd ml ∧ Below U.heap.size U wr') ∧ wr'.heap[A]? = some (.cells #[.int .i64 m1, .int .i64 m2, .int .i64 m3] 38 (0, 0)))) (fun i _ => nr - (intOf i).toNat)
        case atStart => exact ⟨0, Nat.zero_le _, rfl, HW.out⟩
        case round =>
          rename_i wr2
          obtain ⟨q, hq, rfl, HI⟩ := hrel
          obtain ⟨z0, z1, z2⟩ := cells3 HI.out.2
          obtain ⟨t0, t1, t2, t3, _⟩ := cells4 HI.out.1.1.bT
          by_cases hlq : q < nr
          · have hqi : (q : Int) < (nr : Int) := by omega
            obtain ⟨b2, off2, hia, r1, r2⟩ := gat_cells HI.out.1.1.tx.1 hlq
            obtain ⟨p1, hp1⟩ : ∃ x, x = (rs.getD q (0, 0)).1 := ⟨_, rfl⟩
            obtain ⟨p2, hp2⟩ : ∃ x, x = (rs.getD q (0, 0)).2 := ⟨_, rfl⟩
            rw [← hp1] at r1
            rw [← hp2] at r2
            have HRM : Hid ((p1, p2) ∈ rs) := by rw [hp1, hp2]; exact getD_mem (d := (0, 0)) (by rw [HNR.out]; exact hlq)
            clear hp1 hp2
            subst hia
            by_cases h1 : p1 = m2
            · have e1 : (p1 == m2) = true := by simpa using h1
              by_cases h2 : p2 = m3
              · have e2 : (p2 == m3) = true := by simpa using h2
                exact absurd (show (m2, m3) ∈ rs by rw [← h1, ← h2]; exact HRM.out) HNI.out
              · have e2 : (p2 == m3) = false := by simpa using h2
                clear h1 h2
                go_wp2
                go_quiet (fail)
                go_wp2
                go_roundw
                case rel => exact ⟨q + 1, by omega, by go_num, ⟨HI.out.1.1.step (Joins.below_draws _ _ _), HI.out.1.2.trans ((Joins.below_draws _ _ _).mono HI.out.1.2.size)⟩, (keepb HI.out.2 (Joins.below_draws _ _ _)).out⟩
                case measure => simp [intOf]; omega
            · have e1 : (p1 == m2) = false := by simpa using h1
              clear h1
              go_wp2
              go_quiet (fail)
              go_wp2
              go_roundw
              case rel => exact ⟨q + 1, by omega, by go_num, ⟨HI.out.1.1.step (Joins.below_draws _ _ _), HI.out.1.2.trans ((Joins.below_draws _ _ _).mono HI.out.1.2.size)⟩, (keepb HI.out.2 (Joins.below_draws _ _ _)).out⟩
              case measure => simp [intOf]; omega
          · have hqi : ¬ (q : Int) < (nr : Int) := by omega
            go_wp2
            go_roundw
            case rel => exact ⟨j + 1, by omega, by go_num, HI.out.1⟩
            case measure => simp [intOf]; omega
    · obtain rfl : ln = j := by omega
      have hji : ¬ (ln : Int) < (ln : Int) := by omega
      obtain ⟨t0, t1, t2, t3, _⟩ := cells4 HI.out.1.bT
      obtain ⟨x0, x1⟩ := cells2 HI.out.1.bX
      obtain ⟨y0, y1⟩ := cells2 HI.out.1.bY
      go_upto_region 20 with fail
      go_cut [124] (fun c wc => c = .bool false ∧ wc = wr)
      case first =>
        by_cases hk1 : k = 1
        · have hme := member_in HP.out.2.1 (HP.out.2.2.2.1 hk1)
          obtain ⟨h1, h2, h3⟩ := HMR.out
          have hml : ml = [(f, id, 0)] := by rw [← h2]; exact congrArg Prod.snd hme
          have hmc : mc = 0 := by rw [← h1]; exact congrArg Prod.fst hme
          have hlm : lm = 1 := by rw [← h3, hml]; rfl
          obtain ⟨b6, o6, hb6, s0, s1, s2⟩ := mat_cells HI.out.1.ml (show 0 < lm by omega)
          rw [hml] at s0 s1 s2
          simp only [Nat.zero_mul, Nat.add_zero, List.getD_cons_zero] at s0 s1 s2
          have e1 : (id == id) = true := by simp
          clear hme h1 h2 h3 hml
          subst hk1 hmc hlm hb6
          go_wp2
          go_meet
          exact ⟨rfl, rfl⟩
        · have k1b : (k == 1) = false := by simp [hk1]
          by_cases hk2 : k = 2
          · have hme := member_out HP.out.2.1 (HP.out.2.2.2.2 hk2)
            have hmc : mc = 4 := by rw [← HMR.out.1]; exact congrArg Prod.fst hme
            clear hme k1b hk1
            subst hk2 hmc
            go_wp2
            go_meet
            exact ⟨rfl, rfl⟩
          · have k2b : (k == 2) = false := by simp [hk2]
            clear hk1 hk2
            go_wp2
            go_meet
            exact ⟨rfl, rfl⟩
      case rest =>
        obtain ⟨rfl, rfl⟩ := hcut
        have hky := iKeysOf_any ln vc va tl wc (by omega) HI.out.1.tl
        rw [keys_of HP.out.2.1] at hky
        have hlk : (tl.map (·.1)).length = ln := by rw [List.length_map]; exact HTM.out.2.2
        go_wp2_with fail
        refine hky.mono ?_
        clear hky
        rintro e v7 ⟨va7, vc7, rfl, _, hb7⟩
        rw [hlk]
        obtain ⟨Z, hZ⟩ : ∃ x, x = v7.heap.size := ⟨_, rfl⟩
        obtain ⟨W7, hW7⟩ : ∃ W, W = v7.alloc (.cells #[.int .i64 0, .slice va7 ln vc7] 41) := ⟨_, rfl⟩
        have hb := hb7.trans ((below_box (.cells #[.int .i64 0, .slice va7 ln vc7] 41)).mono hb7.size)
        have HE : Hid ((Bm w W7 T X Y k f id g n lc ms ia nr ic rs oa no oc os va ln vc tl mc vb lm vd ml ∧ Below U.heap.size U W7) ∧ W7.heap[Z]? = some (.cells #[.int .i64 0, .slice va7 ln vc7] 41 (0, 0))) := by
          rw [hW7, hZ]
          exact ⟨⟨HI.out.1.step hb, HI.out.2.trans (hb.mono HI.out.2.size)⟩, heap_alloc_new _ _⟩
        clear HI hb7 hb t0 t1 t2 t3 x0 x1 y0 y1 hlk
        go_wp2
        rw [← hZ, ← hW7]
        clear hZ hW7
        have HMF : Hid (∀ W, Below W7.heap.size W7 W → Calls Try.prog 10 #[.slice va ln vc] W fun e w' => e = .returned (.int .i64 0) ∧ Below W.heap.size W w') := fun W hW => by
          have := iMembersFault_any ln vc va tl W (by omega) (HE.out.1.1.step hW).tl
          rw [memsR_iff.2 HP.out.2.1] at this
          exact this
        have HST : Hid (∀ W, Below W7.heap.size W7 W → Calls Try.prog 7 #[.slice (some ⟨g, 0, none⟩) n lc, .agg #[.int .i64 k, .int .i64 f, .slice ia nr ic, .slice oa no oc], .int .i64 id] W fun e w' => ∃ va vc, e = .returned (.agg #[.int .i64 0, .slice va ln vc]) ∧ w'.ownsRow W.heap.size 38 3 (.slice va ln vc) ln (mcells tl) ∧ Below W.heap.size W w') := fun W hW => HSU.out W (HVU.out.trans ((HE.out.1.2.trans (hW.mono HE.out.1.2.size)).mono HVU.out.size))
        have HSM : Hid (∀ (W : World) (a2 : Option Addr) (c2 : Nat), Below W7.heap.size W7 W → MAt W a2 ln tl → Calls Try.prog 11 #[.slice va ln vc, .slice a2 ln c2] W fun e w' => e = .returned (.bool true) ∧ Below W.heap.size W w') := fun W a2 c2 hW h2 => by
          have := iSameMembers_any va a2 ln ln vc c2 tl tl W (by omega) (by omega) (HE.out.1.1.step hW).tl h2
          rw [decide_eq_true rfl] at this
          exact this
        have hf1 := fieldM1
        have HC7 : Hid (∀ W, Below W7.heap.size W7 W → (W.cell? ⟨T, 0, none⟩ = some (.int .i64 k) ∧ W.cell? ⟨T, 1, none⟩ = some (.int .i64 f) ∧ W.cell? ⟨T, 2, none⟩ = some (.slice ia nr ic) ∧ W.cell? ⟨T, 3, none⟩ = some (.slice oa no oc)) ∧ W.cell? ⟨X, 1, none⟩ = some (.slice va ln vc) ∧ W.cell? ⟨Z, 0, none⟩ = some (.int .i64 0) ∧ W.cell? ⟨Z, 1, none⟩ = some (.slice va7 ln vc7)) := fun W hW => by
          obtain ⟨p0, p1, p2, p3, _⟩ := cells4 (HE.out.1.1.step hW).bT
          obtain ⟨q0, q1⟩ := cells2 (HE.out.1.1.step hW).bX
          obtain ⟨r0, r1⟩ := cells2 (keepb HE.out.2 hW).out
          exact ⟨⟨p0, p1, p2, p3⟩, q1, r0, r1⟩
        obtain ⟨⟨p0, p1, p2, p3⟩, p4, p5, p6⟩ := HC7.out W7 (Below.refl _ _)
        go_region_held3 (fun w' => (w'.cell? ⟨T, 0, none⟩ = some (.int .i64 k) ∧ w'.cell? ⟨T, 1, none⟩ = some (.int .i64 f) ∧ w'.cell? ⟨T, 2, none⟩ = some (.slice ia nr ic) ∧ w'.cell? ⟨T, 3, none⟩ = some (.slice oa no oc)) ∧ w'.cell? ⟨X, 1, none⟩ = some (.slice va ln vc) ∧ w'.cell? ⟨Z, 0, none⟩ = some (.int .i64 0) ∧ w'.cell? ⟨Z, 1, none⟩ = some (.slice va7 ln vc7)) (first | (with_reducible exact ⟨⟨p0, p1, p2, p3⟩, p4, p5, p6⟩) | (with_reducible exact HS8.out) | (with_reducible exact HS9.out) | (with_reducible exact HS10.out) | go_keep)
          (first
            | (go_at_call 10; (with_reducible refine (HMF.out _ (Below.refl _ _).drew).mono ?_); clear HMF; rintro e v8 ⟨rfl, hb8⟩; have HB8 : Hid (Below W7.heap.size W7 v8) := (Below.refl _ _).drew.trans hb8; have HS8 := (show Hid _ from HC7.out v8 HB8.out))
            | (go_at_call 7; (with_reducible refine (HST.out _ HB8.out).mono ?_); clear HST; rintro e v9 ⟨va9, vc9, rfl, hO9, hb9⟩; have HB9 : Hid (Below W7.heap.size W7 v9) := HB8.out.trans (hb9.mono HB8.out.size); have HM9 : Hid (MAt v9 va9 ln tl) := mat_own hO9 HTM.out.2.2; have HS9 := (show Hid _ from HC7.out v9 HB9.out); clear hO9 hb9)
            | (go_at_call 11; (with_reducible refine (HSM.out _ _ _ HB9.out HM9.out).mono ?_); clear HSM; rintro e v10 ⟨rfl, hb10⟩; have HB10 : Hid (Below W7.heap.size W7 v10) := HB9.out.trans (hb10.mono HB9.out.size); have HS10 := (show Hid _ from HC7.out v10 HB10.out)))
        all_goals (try go_wp2)
        all_goals go_ret
        all_goals exact ⟨by simp, HE.out.1.1.bel.trans (HB10.out.mono HE.out.1.1.bel.size)⟩

end Go.Proofs.Ytgfhnmjpkanikaa
