/- A cluster, and a result with one: marked, and held. -/
import Derived.Test.YtmnahhojfcigmaaUk
namespace Go.Proofs.Ytmnahhojfcigmaa
open Go.RowKit Go.Maps Go.WideMaps

/-- A cluster's memory, blocks from lo to hi. -/
structure ClO (lo hi : Nat) (W : World) (l t gs : List Int) (h : Nat) (ka : Option Addr) (kc : Nat) (ba : Option Addr) (bc : Nat) (va : Option Addr) (vc : Nat) (ha : Option Addr) (hc : Nat) : Prop where
  r : ClR true lo W l t gs h ka kc ba bc va vc ha hc
  kb : ∀ b, Value.ownBlock (.slice ka l.length kc) = some b → b < hi
  bb : ∀ b, Value.ownBlock (.slice ba t.length bc) = some b → b < hi
  vb : ∀ b, Value.ownBlock (.slice va gs.length vc) = some b → b < hi
  hb : ∀ b, Value.ownBlock (.slice ha h hc) = some b → b < hi
theorem ClO.of {lo : Nat} {W : World} {l t gs : List Int} {h : Nat} {ka : Option Addr} {kc : Nat} {ba : Option Addr} {bc : Nat} {va : Option Addr} {vc : Nat} {ha : Option Addr} {hc : Nat} (H : ClR true lo W l t gs h ka kc ba bc va vc ha hc) : ClO lo W.heap.size W l t gs h ka kc ba bc va vc ha hc :=
  ⟨H, fun b e => (H.keys.lt b e).2, fun b e => (H.bad.lt b e).2, fun b e => (H.vts.lt b e).2, fun b e => (H.hrd.lt b e).2⟩
theorem ClO.below {lo hi : Nat} {W W2 : World} {l t gs : List Int} {h : Nat} {ka : Option Addr} {kc : Nat} {ba : Option Addr} {bc : Nat} {va : Option Addr} {vc : Nat} {ha : Option Addr} {hc : Nat} (H : ClO lo hi W l t gs h ka kc ba bc va vc ha hc) (hb : Below W.heap.size W W2) : ClO lo hi W2 l t gs h ka kc ba bc va vc ha hc := ⟨H.r.below hb, H.kb, H.bb, H.vb, H.hb⟩
theorem ClO.chg {lo hi lo2 hi2 : Nat} {W W2 : World} {l t gs : List Int} {h : Nat} {ka : Option Addr} {kc : Nat} {ba : Option Addr} {bc : Nat} {va : Option Addr} {vc : Nat} {ha : Option Addr} {hc : Nat} (H : ClO lo hi W l t gs h ka kc ba bc va vc ha hc) (hcg : Chg W W2 lo2 hi2) (hd : hi2 ≤ lo) : ClO lo hi W2 l t gs h ka kc ba bc va vc ha hc :=
  ⟨⟨hcg.row H.r.keys (fun b e => .inr (by have := (H.r.keys.lt b e).1; omega)), hcg.row H.r.bad (fun b e => .inr (by have := (H.r.bad.lt b e).1; omega)), H.r.apart, hcg.row H.r.vts (fun b e => .inr (by have := (H.r.vts.lt b e).1; omega)), hcg.row H.r.hrd (fun b e => .inr (by have := (H.r.hrd.lt b e).1; omega))⟩, H.kb, H.bb, H.vb, H.hb⟩
/-- A cluster that is marked from k on. -/
structure ClM (lo k : Nat) (W : World) (n m g h : Nat) (ka : Option Addr) (kc : Nat) (ba : Option Addr) (bc : Nat) (va : Option Addr) (vc : Nat) (ha : Option Addr) (hc : Nat) : Prop where
  keys : W.ownsRow lo 2 1 (.slice ka n kc) n (mkI k n)
  bad : W.ownsRow lo 2 1 (.slice ba m bc) m (mkI (k + n) m)
  vts : ∃ xs, W.ownsRow lo 53 3 (.slice va g vc) g xs ∧ MkV xs (k + n + m) g
  hrd : W.ownsRow lo 22 1 (.slice ha h hc) h (nils h)
theorem ClM.below {lo k : Nat} {W W2 : World} {n m g h : Nat} {ka : Option Addr} {kc : Nat} {ba : Option Addr} {bc : Nat} {va : Option Addr} {vc : Nat} {ha : Option Addr} {hc : Nat} (H : ClM lo k W n m g h ka kc ba bc va vc ha hc) (hb : Below W.heap.size W W2) : ClM lo k W2 n m g h ka kc ba bc va vc ha hc := by
  obtain ⟨xs, h1, h2⟩ := H.vts
  exact ⟨row_below H.keys hb, row_below H.bad hb, ⟨xs, row_below h1 hb, h2⟩, row_below H.hrd hb⟩
theorem kept_ty {w w' : World} {b1 b2 n1 n2 z1 z2 : Nat} {e1 e2 : TypeId} {v1 v2 : Value} {x1 x2 : List Value} (h1 : w.ownsRow b1 e1 z1 v1 n1 x1) (h2 : w.ownsRow b2 e2 z2 v2 n2 x2) (hne : e2 ≠ e1) (hg : w.grownBy w' v2.ownBlock) : w'.ownsRow b1 e1 z1 v1 n1 x1 := h1.kept hg (row_apart h1 h2 hne)
theorem box_ty {w w' : World} {X b2 n2 z2 : Nat} {cs : Array Value} {T e2 : TypeId} {v2 : Value} {x2 : List Value} (hX : w.heap[X]? = some (.cells cs T (0, 0))) (h2 : w.ownsRow b2 e2 z2 v2 n2 x2) (hne : T ≠ e2) (hg : w.grownBy w' v2.ownBlock) : w'.heap[X]? = some (.cells cs T (0, 0)) :=
  (hg.block X (lt_of_block hX) (fun e => row_neV h2 hX hne e.symm)).trans hX
theorem grown_after {w w1 w2 : World} {row : Option Nat} (hb : Below w.heap.size w w1) (hg : w1.grownBy w2 row) : w.grownBy w2 row :=
  ⟨hg.os.trans hb.os, hg.tape.trans hb.tape, hg.output.trans hb.output, Nat.le_trans hb.size hg.size, fun b hl hne => (hg.block b (Nat.lt_of_lt_of_le hl hb.size) hne).trans (hb.block b hl)⟩
theorem apart_sym {v1 v2 : Value} (h : ∀ b, v1.ownBlock = some b → v2.ownBlock ≠ some b) : (v1.ownBlock = none ∨ v1.ownBlock ≠ v2.ownBlock) ∧ (v2.ownBlock = none ∨ v2.ownBlock ≠ v1.ownBlock) := by
  cases h1 : v1.ownBlock with
  | none => refine ⟨.inl rfl, ?_⟩; cases v2.ownBlock <;> simp
  | some b => exact ⟨.inr (fun e => h b h1 e.symm), .inr (h b h1)⟩

set_option maxHeartbeats 400000 in
theorem markQg_any (a : Option Addr) (n c base k : Nat) (xs : List Value) (x : Int) (w : World) (hkn : k + n ≤ 4000000) (h : w.ownsRow base 2 1 (.slice a n c) n xs) :
    Calls Try.prog 12 #[.agg #[.slice a n c, .int .i64 x], .int .i64 k] w fun e w' => e = .returned (.int .i64 (k + n : Nat)) ∧ w'.ownsRow base 2 1 (.slice a n c) n (mkI k n) ∧ w.grownBy w' (Value.ownBlock (.slice a n c)) := by
  have hL := markI_any (.slice a n c) n base k xs (w.alloc (.cells #[.slice a n c, .int .i64 x] 26)) hkn (h.alloc _)
  clear h
  go_enter Try.func12, Try.ntmps12
  go_wp2_with (first | (go_at_call 13; refine hL.mono ?_; rintro e w2 ⟨rfl, ho2, hg2⟩))
  go_ret
  exact ⟨rfl, ho2, grown_after (below_box _) hg2⟩
set_option maxHeartbeats 400000 in
theorem heldQg_any (a : Option Addr) (n c base k : Nat) (x : Int) (w : World) (hkn : k + n ≤ 4000000) (h : w.ownsRow base 2 1 (.slice a n c) n (mkI k n)) :
    Calls Try.prog 52 #[.agg #[.slice a n c, .int .i64 x], .int .i64 k] w fun e w' => e = .returned (.int .i64 (k + n : Nat)) ∧ Below w.heap.size w w' := by
  have hL := heldI_any (.slice a n c) n base k (w.alloc (.cells #[.slice a n c, .int .i64 x] 26)) hkn (h.alloc _)
  clear h
  go_enter Try.func52, Try.ntmps52
  go_wp2_with (first | (go_at_call 53; refine hL.mono ?_; rintro e w2 ⟨rfl, hw⟩; subst hw))
  go_ret
  exact ⟨ret_int (by omega), below_box _⟩
theorem mkK_eq {w : World} {f : Nat} {v : Value} {k K Kx1 : Nat} {Q : World → Prop} (hK : K = Kx1) (h : Calls Try.prog f #[v, .int .i64 (k : Nat)] w fun e w' => e = .returned (.int .i64 (K : Nat)) ∧ Q w') : Calls Try.prog f #[v, .int .i64 (k : Nat)] w fun e w' => e = .returned (.int .i64 (Kx1 : Nat)) ∧ Q w' := by subst hK; exact h

set_option maxHeartbeats 2000000 in
theorem markC_any (xk xb : List Value) (gs : List Int) (x : Int) (n m g h lo hi k : Nat) (ka : Option Addr) (kc : Nat) (ba : Option Addr) (bc : Nat) (va : Option Addr) (vc : Nat) (ha : Option Addr) (hc : Nat) (w : World) (hg : gs.length = g) (hn1 : n ≤ 1000) (hm1 : m ≤ 1000) (hg1 : g ≤ 1000) (hh : h ≤ 1000) (hk : k ≤ 1000) (hrk : w.ownsRow lo 2 1 (.slice ka n kc) n xk) (hrb : w.ownsRow lo 2 1 (.slice ba m bc) m xb) (hrv : w.ownsRow lo 53 3 (.slice va g vc) g (ucells gs)) (hrh : w.ownsRow lo 22 1 (.slice ha h hc) h (nils h)) (hap : ∀ b, Value.ownBlock (.slice ka n kc) = some b → Value.ownBlock (.slice ba m bc) ≠ some b)
    (hkb : ∀ b, Value.ownBlock (.slice ka n kc) = some b → b < hi) (hbb : ∀ b, Value.ownBlock (.slice ba m bc) = some b → b < hi) (hvb : ∀ b, Value.ownBlock (.slice va g vc) = some b → b < hi) :
    Calls Try.prog 28 #[.agg #[.slice ka n kc, .int .i64 x, .slice ba m bc, .slice none 0 0, .slice va g vc, .slice none 0 0, .slice ha h hc], .int .i64 k] w fun e w' => e = .returned (.int .i64 (k + n + m + g * 2 : Nat)) ∧ ClM lo k w' n m g h ka kc ba bc va vc ha hc ∧ Chg w w' lo hi := by
  have hbx := below_box (w := w) (.cells #[.slice ka n kc, .int .i64 x, .slice ba m bc, .slice none 0 0, .slice va g vc, .slice none 0 0, .slice ha h hc] 32)
  have HAP : Hid ((Value.ownBlock (.slice ka n kc) = none ∨ Value.ownBlock (.slice ka n kc) ≠ Value.ownBlock (.slice ba m bc)) ∧ (Value.ownBlock (.slice ba m bc) = none ∨ Value.ownBlock (.slice ba m bc) ≠ Value.ownBlock (.slice ka n kc))) := apart_sym hap
  have HKB : Hid (∀ b, Value.ownBlock (.slice ka n kc) = some b → b < hi) := hkb
  have HBB : Hid (∀ b, Value.ownBlock (.slice ba m bc) = some b → b < hi) := hbb
  have HVB : Hid (∀ b, Value.ownBlock (.slice va g vc) = some b → b < hi) := hvb
  obtain ⟨W0, hW0⟩ : ∃ W, W = (w.alloc (.cells #[.slice ka n kc, .int .i64 x, .slice ba m bc, .slice none 0 0, .slice va g vc, .slice none 0 0, .slice ha h hc] 32)) := ⟨_, rfl⟩
  have HW0 : Hid (W0 = (w.alloc (.cells #[.slice ka n kc, .int .i64 x, .slice ba m bc, .slice none 0 0, .slice va g vc, .slice none 0 0, .slice ha h hc] 32))) := hW0
  rw [← hW0] at hbx
  have RK0 : Hid (W0.ownsRow lo 2 1 (.slice ka n kc) n xk) := row_below hrk hbx
  have RB0 : Hid (W0.ownsRow lo 2 1 (.slice ba m bc) m xb) := row_below hrb hbx
  have RV0 : Hid (W0.ownsRow lo 53 3 (.slice va g vc) g (ucells gs)) := row_below hrv hbx
  have RH0 : Hid (W0.ownsRow lo 22 1 (.slice ha h hc) h (nils h)) := row_below hrh hbx
  have T0 : Hid (W0.heap[w.heap.size]? = some (.cells #[.slice ka n kc, .int .i64 x, .slice ba m bc, .slice none 0 0, .slice va g vc, .slice none 0 0, .slice ha h hc] 32 (0, 0))) := by rw [hW0]; exact heap_alloc_new _ _
  have HG0 : Hid (Chg w W0 lo hi) := Chg.of_below hbx lo hi
  have HGL : Hid (gs.length = g) := hg
  obtain ⟨Kx1, hK1⟩ : ∃ K, K = k + n := ⟨_, rfl⟩
  obtain ⟨Kx2, hK2⟩ : ∃ K, K = Kx1 + m := ⟨_, rfl⟩
  obtain ⟨Kx3, hK3⟩ : ∃ K, K = Kx2 + g * 2 := ⟨_, rfl⟩
  have HK1 : Hid (k + n = Kx1) := hK1.symm
  have HK2 : Hid (Kx1 + m = Kx2) := hK2.symm
  have HK3 : Hid (Kx2 + g * 2 = Kx3) := hK3.symm
  have hb1 : Kx1 ≤ 3000 := by omega
  have hb2 : Kx2 ≤ 4000000 := by omega
  have hb3 : Kx3 ≤ 4000000 := by omega
  have n1 : ¬ (Kx1 : Int) < 0 := by omega
  have n2 : ¬ (Kx2 : Int) < 0 := by omega
  have n3 : ¬ (Kx3 : Int) < 0 := by omega
  have HKK : Hid (k + n + m + g * 2 = Kx3) := by show _ = _; omega
  rw [HKK.out]
  clear hK1 hK2 hK3
  have h0 := mkK_eq HK1.out (markQg_any ka n kc lo k xk x W0 (by omega) RK0.out)
  rw [hW0] at h0
  clear hrk hrb hrv hrh hap hkb hbb hvb hW0 hbx hg
  go_enter Try.func28, Try.ntmps28
  go_wp2_with (first
    | (go_at_call 12; have hq := h0; clear h0; (with_reducible refine hq.mono ?_); clear hq; rintro e u1 ⟨rfl, r1, g1⟩; rw [← HW0.out] at g1; have RB : Hid (u1.ownsRow lo 2 1 (.slice ba m bc) m (xb)) := (RB0.out.kept g1 HAP.out.2); have RV : Hid (u1.ownsRow lo 53 3 (.slice va g vc) g (ucells gs)) := kept_ty RV0.out RK0.out (Ne.symm neV1) g1; have RH : Hid (u1.ownsRow lo 22 1 (.slice ha h hc) h (nils h)) := kept_ty RH0.out RK0.out (Ne.symm neI1) g1; have T1 : Hid (u1.heap[w.heap.size]? = some (.cells #[.slice ka n kc, .int .i64 x, .slice ba m bc, .slice none 0 0, .slice va g vc, .slice none 0 0, .slice ha h hc] 32 (0, 0))) := box_ty T0.out RK0.out neC1 g1; have RK : Hid (u1.ownsRow lo 2 1 (.slice ka n kc) n (mkI k n)) := r1; have HG1 : Hid (Chg w u1 lo hi) := HG0.out.trans (Chg.of_grown g1 (fun b e => ⟨(RK0.out.lt b e).1, HKB.out b e⟩)); obtain ⟨p0, p1, p2, p3, p4, p5, p6⟩ := cells7V T1.out; have h1 := mkK_eq HK2.out (markI_any (.slice ba m bc) m lo Kx1 _ u1 (by omega) RB.out); clear r1 g1)
    | (go_at_call 13; have hq := h1; clear h1; (with_reducible refine hq.mono ?_); clear hq; rintro e u2 ⟨rfl, r2, g2⟩; clear p0 p1 p2 p3 p4 p5 p6; have RK2 : Hid (u2.ownsRow lo 2 1 (.slice ka n kc) n (mkI k n)) := (RK.out.kept g2 HAP.out.1); have RV2 : Hid (u2.ownsRow lo 53 3 (.slice va g vc) g (ucells gs)) := kept_ty RV.out RB.out (Ne.symm neV1) g2; have RH2 : Hid (u2.ownsRow lo 22 1 (.slice ha h hc) h (nils h)) := kept_ty RH.out RB.out (Ne.symm neI1) g2; have T2 : Hid (u2.heap[w.heap.size]? = some (.cells #[.slice ka n kc, .int .i64 x, .slice ba m bc, .slice none 0 0, .slice va g vc, .slice none 0 0, .slice ha h hc] 32 (0, 0))) := box_ty T1.out RB.out neC1 g2; have RB2 : Hid (u2.ownsRow lo 2 1 (.slice ba m bc) m (mkI Kx1 m)) := r2; have HG2 : Hid (Chg w u2 lo hi) := HG1.out.trans (Chg.of_grown g2 (fun b e => ⟨(RB.out.lt b e).1, HBB.out b e⟩)); obtain ⟨p0, p1, p2, p3, p4, p5, p6⟩ := cells7V T2.out; have h2 := mkNs_nil (Kx2 : Int) u2 (by omega); clear r2 g2)
    | (go_at_call 48; have hq := h2; clear h2; (with_reducible refine hq.mono ?_); clear hq; rintro e u3 ⟨rfl, hw⟩; have hw2 := hw.symm; subst hw2; have h3 := mkK_eq HK3.out (markUs_any (.slice va g vc) g lo Kx2 gs u2 hg1 hb2 HGL.out RV2.out))
    | (go_at_call 49; have hq := h3; clear h3; (with_reducible refine hq.mono ?_); clear hq; rintro e u4 ⟨rfl, ⟨xs, r4, mv⟩, g4⟩; clear p0 p1 p2 p3 p4 p5 p6; have RK4 : Hid (u4.ownsRow lo 2 1 (.slice ka n kc) n (mkI k n)) := kept_ty RK2.out RV2.out neV1 g4; have RB4 : Hid (u4.ownsRow lo 2 1 (.slice ba m bc) m (mkI Kx1 m)) := kept_ty RB2.out RV2.out neV1 g4; have RH4 : Hid (u4.ownsRow lo 22 1 (.slice ha h hc) h (nils h)) := kept_ty RH2.out RV2.out neV3 g4; have T4 : Hid (u4.heap[w.heap.size]? = some (.cells #[.slice ka n kc, .int .i64 x, .slice ba m bc, .slice none 0 0, .slice va g vc, .slice none 0 0, .slice ha h hc] 32 (0, 0))) := box_ty T2.out RV2.out neC2 g4; have RV4 : Hid (u4.ownsRow lo 53 3 (.slice va g vc) g (xs)) := r4; have HMV : Hid (MkV xs Kx2 g) := mv; have HG4 : Hid (Chg w u4 lo hi) := HG2.out.trans (Chg.of_grown g4 (fun b e => ⟨(RV2.out.lt b e).1, HVB.out b e⟩)); obtain ⟨p0, p1, p2, p3, p4, p5, p6⟩ := cells7V T4.out; have h4 := mkVos_nil (Kx3 : Int) u4 (by omega); clear r4 g4 mv)
    | (go_at_call 50; have hq := h4; clear h4; (with_reducible refine hq.mono ?_); clear hq; rintro e u5 ⟨rfl, hw⟩; have hw2 := hw.symm; subst hw2; have h5 := markLs_any ha h hc Kx3 u4 hh hb3 (lat_row RH4.out))
    | (go_at_call 51; have hq := h5; clear h5; (with_reducible refine hq.mono ?_); clear hq; rintro e u6 ⟨rfl, hw⟩; have hw2 := hw.symm; subst hw2))
  go_ret
  refine ⟨rfl, ⟨RK4.out, ?_, ⟨xs, RV4.out, ?_⟩, RH4.out⟩, HG4.out⟩
  · rw [HK1.out]; exact RB4.out
  · rw [HK1.out, HK2.out]; exact HMV.out

set_option maxHeartbeats 2000000 in
theorem heldC_any (x : Int) (n m g h lo k : Nat) (ka : Option Addr) (kc : Nat) (ba : Option Addr) (bc : Nat) (va : Option Addr) (vc : Nat) (ha : Option Addr) (hc : Nat) (w : World) (hn1 : n ≤ 1000) (hm1 : m ≤ 1000) (hg1 : g ≤ 1000) (hh : h ≤ 1000) (hk : k ≤ 1000) (hM : ClM lo k w n m g h ka kc ba bc va vc ha hc) :
    Calls Try.prog 29 #[.agg #[.slice ka n kc, .int .i64 x, .slice ba m bc, .slice none 0 0, .slice va g vc, .slice none 0 0, .slice ha h hc], .int .i64 k] w fun e w' => e = .returned (.int .i64 (k + n + m + g * 2 : Nat)) ∧ Below w.heap.size w w' := by
  obtain ⟨W0, hW0⟩ : ∃ W, W = (w.alloc (.cells #[.slice ka n kc, .int .i64 x, .slice ba m bc, .slice none 0 0, .slice va g vc, .slice none 0 0, .slice ha h hc] 32)) := ⟨_, rfl⟩
  have HW0 : Hid (W0 = (w.alloc (.cells #[.slice ka n kc, .int .i64 x, .slice ba m bc, .slice none 0 0, .slice va g vc, .slice none 0 0, .slice ha h hc] 32))) := hW0
  have HBX : Hid (Below w.heap.size w W0) := by rw [hW0]; exact below_box _
  have HM : Hid (ClM lo k w n m g h ka kc ba bc va vc ha hc) := hM
  have T0 : Hid (W0.heap[w.heap.size]? = some (.cells #[.slice ka n kc, .int .i64 x, .slice ba m bc, .slice none 0 0, .slice va g vc, .slice none 0 0, .slice ha h hc] 32 (0, 0))) := by rw [hW0]; exact heap_alloc_new _ _
  obtain ⟨Kx1, hK1⟩ : ∃ K, K = k + n := ⟨_, rfl⟩
  obtain ⟨Kx2, hK2⟩ : ∃ K, K = Kx1 + m := ⟨_, rfl⟩
  obtain ⟨Kx3, hK3⟩ : ∃ K, K = Kx2 + g * 2 := ⟨_, rfl⟩
  have HK1 : Hid (k + n = Kx1) := hK1.symm
  have HK2 : Hid (Kx1 + m = Kx2) := hK2.symm
  have HK3 : Hid (Kx2 + g * 2 = Kx3) := hK3.symm
  have hb1 : Kx1 ≤ 3000 := by omega
  have hb2 : Kx2 ≤ 4000000 := by omega
  have hb3 : Kx3 ≤ 4000000 := by omega
  have n1 : ¬ (Kx1 : Int) < 0 := by omega
  have n2 : ¬ (Kx2 : Int) < 0 := by omega
  have n3 : ¬ (Kx3 : Int) < 0 := by omega
  have HKK : Hid (k + n + m + g * 2 = Kx3) := by show _ = _; omega
  rw [HKK.out]
  clear hK1 hK2 hK3
  have h0 := mkK_eq HK1.out (heldQg_any ka n kc lo k x W0 (by omega) (row_below hM.keys HBX.out))
  rw [hW0] at h0
  clear hW0 hM
  go_enter Try.func29, Try.ntmps29
  go_wp2_with (first
    | (go_at_call 52; have hq := h0; clear h0; (with_reducible refine hq.mono ?_); clear hq; rintro e u1 ⟨rfl, b1⟩; rw [← HW0.out] at b1; have HB1 : Hid (Below w.heap.size w u1) := HBX.out.trans (b1.mono HBX.out.size); have HM1 : Hid (ClM lo k u1 n m g h ka kc ba bc va vc ha hc) := HM.out.below HB1.out; have T1 := keepb T0.out b1; obtain ⟨p0, p1, p2, p3, p4, p5, p6⟩ := cells7V T1.out; have h1 := mkK_eq HK2.out (heldI_any (.slice ba m bc) m lo Kx1 u1 (by omega) (by rw [← HK1.out]; exact HM1.out.bad)); clear b1)
    | (go_at_call 53; have hq := h1; clear h1; (with_reducible refine hq.mono ?_); clear hq; rintro e u2 ⟨rfl, hw⟩; have hw2 := hw.symm; subst hw2; have h2 := hdNs_nil (Kx2 : Int) u1 (by omega))
    | (go_at_call 54; have hq := h2; clear h2; (with_reducible refine hq.mono ?_); clear hq; rintro e u3 ⟨rfl, hw⟩; have hw2 := hw.symm; subst hw2; obtain ⟨xs, r3, mv⟩ := HM1.out.vts; have h3 := mkK_eq HK3.out (heldUs_any (.slice va g vc) g lo Kx2 xs u1 hg1 hb2 r3 (by rw [← HK2.out, ← HK1.out]; exact mv)); clear r3 mv)
    | (go_at_call 55; have hq := h3; clear h3; (with_reducible refine hq.mono ?_); clear hq; rintro e u4 ⟨rfl, hw⟩; have hw2 := hw.symm; subst hw2; have h4 := hdVos_nil (Kx3 : Int) u1 (by omega))
    | (go_at_call 56; have hq := h4; clear h4; (with_reducible refine hq.mono ?_); clear hq; rintro e u5 ⟨rfl, hw⟩; have hw2 := hw.symm; subst hw2; have h5 := heldLs_any ha h hc Kx3 u1 hh hb3 (lat_row HM1.out.hrd))
    | (go_at_call 57; have hq := h5; clear h5; (with_reducible refine hq.mono ?_); clear hq; rintro e u6 ⟨rfl, hw⟩; have hw2 := hw.symm; subst hw2))
  go_ret
  exact ⟨rfl, HB1.out⟩

set_option maxHeartbeats 1000000 in
theorem heldClR_any (p x : Int) (n m g h lo k : Nat) (ka : Option Addr) (kc : Nat) (ba : Option Addr) (bc : Nat) (va : Option Addr) (vc : Nat) (ha : Option Addr) (hc : Nat) (w : World) (hn1 : n ≤ 1000) (hm1 : m ≤ 1000) (hg1 : g ≤ 1000) (hh : h ≤ 1000) (hk : k ≤ 1000) (hM : ClM lo k w n m g h ka kc ba bc va vc ha hc) :
    Calls Try.prog 15 #[.agg #[.int .i64 p, .slice ka n kc, .int .i64 x, .slice ba m bc, .slice none 0 0, .slice va g vc, .slice none 0 0, .slice ha h hc], .int .i64 k] w fun e w' => e = .returned (.int .i64 (k + n + m + g * 2 : Nat)) ∧ Below w.heap.size w w' := by
  have hL := heldC_any x n m g h lo k ka kc ba bc va vc ha hc _ hn1 hm1 hg1 hh hk (hM.below (below_box (.cells #[.int .i64 p, .slice ka n kc, .int .i64 x, .slice ba m bc, .slice none 0 0, .slice va g vc, .slice none 0 0, .slice ha h hc] 34)))
  obtain ⟨K, hK⟩ : ∃ K, K = k + n + m + g * 2 := ⟨_, rfl⟩
  rw [← hK] at hL ⊢
  have n1 : ¬ (K : Int) < 0 := by omega
  clear hM hK
  go_enter Try.func15, Try.ntmps15
  go_wp2_with (first | (go_at_call 29; (with_reducible refine hL.mono ?_); clear hL; rintro e w2 ⟨rfl, hb2⟩))
  go_ret
  exact ⟨rfl, (below_box _).trans (hb2.mono (by simp))⟩

set_option maxHeartbeats 1000000 in
theorem markClR_any (p x : Int) (l t gs : List Int) (h lo hi k : Nat) (ka : Option Addr) (kc : Nat) (ba : Option Addr) (bc : Nat) (va : Option Addr) (vc : Nat) (ha : Option Addr) (hc : Nat) (w : World) (hn1 : l.length ≤ 1000) (hm1 : t.length ≤ 1000) (hg1 : gs.length ≤ 1000) (hh : h ≤ 1000) (hk : k ≤ 1000) (H : ClO lo hi w l t gs h ka kc ba bc va vc ha hc) :
    Calls Try.prog 14 #[.agg #[.int .i64 p, .slice ka l.length kc, .int .i64 x, .slice ba t.length bc, .slice none 0 0, .slice va gs.length vc, .slice none 0 0, .slice ha h hc], .int .i64 k] w fun e w' => e = .returned (.int .i64 (k + l.length + t.length + gs.length * 2 : Nat)) ∧ ClM lo k w' l.length t.length gs.length h ka kc ba bc va vc ha hc ∧ Chg w w' lo hi := by
  have H2 := H.below (below_box (.cells #[.int .i64 p, .slice ka l.length kc, .int .i64 x, .slice ba t.length bc, .slice none 0 0, .slice va gs.length vc, .slice none 0 0, .slice ha h hc] 34))
  have hL := markC_any (ints l) (ints t) gs x l.length t.length gs.length h lo hi k ka kc ba bc va vc ha hc _ rfl hn1 hm1 hg1 hh hk H2.r.keys H2.r.bad H2.r.vts H2.r.hrd (H2.r.apart rfl) H2.kb H2.bb H2.vb
  clear H H2
  go_enter Try.func14, Try.ntmps14
  go_wp2_with (first | (go_at_call 28; (with_reducible refine hL.mono ?_); clear hL; rintro e w2 ⟨rfl, hm2, hc2⟩))
  go_ret
  exact ⟨rfl, hm2, (Chg.of_below (below_box _) lo hi).trans hc2⟩

end Go.Proofs.Ytmnahhojfcigmaa
