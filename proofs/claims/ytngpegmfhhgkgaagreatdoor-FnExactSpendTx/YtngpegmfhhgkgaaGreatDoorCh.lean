/- Marks in coins are read back; the results that hold coins. -/
import Derived.Test.YtngpegmfhhgkgaaGreatDoorCm
namespace Go.Proofs.YtngpegmfhhgkgaaGreatDoor
open Go.RowKit Go.Maps Go.WideMaps

set_option maxRecDepth 20000 in
set_option maxHeartbeats 4000000 in
theorem heldCs_any (v : Value) (n lo hi k : Nat) (f : Nat → Co) (kv : Nat → Value) (w : World) (hn : n ≤ 1048576) (hl : ∀ j, j < n → (f j).l.length ≤ 1048576) (hk : k ≤ 1000) (h : COwn w lo hi v n (mkF k f) kv) :
    Calls Tryz.prog 36 #[v, .int .i64 k] w fun e w' => e = .returned (.int .i64 (kAt k f n : Nat)) ∧ w' = w := by
  obtain ⟨xs0, hr0, _⟩ := h.row
  rcases id hr0.2 with ⟨rfl, rfl⟩ | ⟨g, cap, cur, rfl, hbg, hgg, hnc, hcm, _⟩
  · go_enter Tryz.func36, Tryz.ntmps36
    go_wp2
    refine wp_loop_rounds 1 ?_
    rw [rounds_succ]
    go_wp2
    go_ret
    exact ⟨rfl, rfl⟩
  · have HO : Hid (COwn w lo hi (.slice (some ⟨g, 0, none⟩) n cap) n (mkF k f) kv) := h
    have HL : Hid (∀ j, j < n → (f j).l.length ≤ 1048576) := hl
    clear h hr0 hbg hgg hnc hcm hl
    go_enter Tryz.func36, Tryz.ntmps36
    go_wp2
    go_loopw [1, 5] (fun a i wr => ∃ j : Nat, j ≤ n ∧ i = .int .i64 j ∧ ∃ K : Nat, a = .int .i64 K ∧ Hid (kAt k f j = K) ∧ wr = w) (fun _ i _ => n - (intOf i).toNat)
    case atStart => exact ⟨0, Nat.zero_le _, rfl, k, rfl, rfl, rfl⟩
    case round =>
      obtain ⟨j, hj, rfl, K, rfl, HK, hw⟩ := hrel
      have hw2 := hw.symm
      subst hw2
      by_cases hlt : j < n
      · obtain ⟨len, hlen⟩ : ∃ len, len = (f j).l.length := ⟨_, rfl⟩
        have hcj : mkF k f j = mkC K (f j) := by unfold mkF; rw [HK.out]
        obtain ⟨u, hu⟩ : ∃ u, kv j = u := ⟨_, rfl⟩
        obtain ⟨⟨x0, x1, x2, x3, x4, x5, x6, x7⟩, _⟩ := HO.out.cells hlt hcj hu
        have hKb : K ≤ 1000 + n * 1048583 := by have := kAt_le (k := k) HL.out j hj; rw [HK.out] at this; have h2 : j * 1048583 ≤ n * 1048583 := Nat.mul_le_mul_right _ hj; omega
        have hlc : len ≤ 1048576 := by rw [hlen]; exact HL.out j hlt
        have hkr := (HO.out.keys j hlt).1
        rw [hcj, hu] at hkr
        have hkr2 : w.ownsRow lo 2 1 u len (mkI (K + 3) len) := by
          have e : (mkC K (f j)).l = mkKs (K + 3) len := by rw [hlen]; rfl
          rw [e, mkKs_length, ints_mkKs] at hkr
          exact hkr
        have hM : ∀ z : Int, z = (K + 3 : Nat) → Calls Tryz.prog 62 #[u, .int .i64 z] w fun e w' => e = .returned (.int .i64 (K + 3 + len : Nat)) ∧ w' = w := fun z hz => by subst hz; exact heldK_any u len lo (K + 3) w (by omega) hkr2
        have HKN : Hid (kAt k f (j + 1) = K + 7 + len) := by show kAt k f j + 7 + (f j).l.length = _; rw [HK.out, hlen]
        have e0 : w.cell? ⟨g, j * 8, none⟩ = some (.int .i64 (K : Int)) := x0
        have e1 : w.cell? ⟨g, j * 8 + 1, none⟩ = some (.int .i64 ((K : Int) + 1)) := by rw [x1]; simp [mkC]
        have e2 : w.cell? ⟨g, j * 8 + 2, none⟩ = some (.int .i64 ((K : Int) + 1 + 1)) := by rw [x2]; simp [mkC]; omega
        have e4 : w.cell? ⟨g, j * 8 + 4, none⟩ = some (.int .i64 ((K : Int) + 3 + (len : Int))) := by rw [x4]; simp [mkC, ← hlen]
        have e5 : w.cell? ⟨g, j * 8 + 5, none⟩ = some (.int .i64 ((K : Int) + 3 + (len : Int) + 1)) := by rw [x5]; simp [mkC, ← hlen]; omega
        have e6 : w.cell? ⟨g, j * 8 + 6, none⟩ = some (.int .i64 ((K : Int) + 3 + (len : Int) + 1 + 1)) := by rw [x6]; simp [mkC, ← hlen]; omega
        have e7 : w.cell? ⟨g, j * 8 + 7, none⟩ = some (.bool (((K : Int) + 3 + (len : Int) + 1 + 1 + 1) % 3 == 0)) := by rw [x7, remB _ (K + 6 + len) (by omega), hlen]; rfl
        clear hlen hcj hu hkr hkr2 x0 x1 x2 x4 x5 x6 x7
        have hki : (j : Int) < (n : Int) := by omega
        go_wp2_with (first
          | (go_at_call 62; refine (hM _ (by omega)).mono ?_; clear hM; rintro e w4 ⟨rfl, hw⟩; have hw2 := hw.symm; subst hw2))
        go_roundw
        case rel => exact ⟨j + 1, by omega, by go_num, K + 7 + len, by go_num, HKN.out, (by first | rfl | trivial)⟩
        case measure => simp [intOf]; omega
      · obtain rfl : j = n := by omega
        go_wp2
        go_ret
        exact ⟨by rw [HK.out]; rfl, rfl⟩

theorem markCR_any (v : Value) (p : Int) (n lo hi k : Nat) (f : Nat → Co) (kv : Nat → Value) (w : World) (hn : n ≤ 1048576) (hl : ∀ j, j < n → (f j).l.length ≤ 1048576) (hk : k ≤ 1000) (_hhi : hi ≤ w.heap.size) (h : COwn w lo hi v n f kv) :
    Calls Tryz.prog 15 #[.agg #[.int .i64 p, v], .int .i64 k] w fun e w' => e = .returned (.int .i64 (kAt k f n : Nat)) ∧ COwn w' lo hi v n (mkF k f) kv ∧ Chg w w' lo hi := by
  have hL := markCs_any v n lo hi k f kv (w.alloc (.cells #[.int .i64 p, v] 31)) hn hl (by omega) (h.below (below_box _))
  have hb : Below w.heap.size w (w.alloc (.cells #[.int .i64 p, v] 31)) := below_box _
  clear h hl
  go_enter Tryz.func15, Tryz.ntmps15
  go_wp2_with (first | (go_at_call 13; (with_reducible refine hL.mono ?_); clear hL; rintro e w2 ⟨rfl, ho2, hg2⟩))
  go_ret
  exact ⟨rfl, ho2, (Chg.of_below hb lo hi).trans hg2⟩

theorem heldCR_any (v : Value) (p : Int) (n lo hi k : Nat) (f : Nat → Co) (kv : Nat → Value) (w : World) (hn : n ≤ 1048576) (hl : ∀ j, j < n → (f j).l.length ≤ 1048576) (hk : k ≤ 1000) (h : COwn w lo hi v n (mkF k f) kv) :
    Calls Tryz.prog 16 #[.agg #[.int .i64 p, v], .int .i64 k] w fun e w' => e = .returned (.int .i64 (kAt k f n : Nat)) ∧ Below w.heap.size w w' := by
  have hL := heldCs_any v n lo hi k f kv (w.alloc (.cells #[.int .i64 p, v] 31)) hn hl hk (h.below (below_box _))
  have hb : Below w.heap.size w (w.alloc (.cells #[.int .i64 p, v] 31)) := below_box _
  obtain ⟨q, hq⟩ : ∃ q, q = kAt k f n := ⟨_, rfl⟩
  rw [← hq] at hL ⊢
  clear h hl hq
  go_enter Tryz.func16, Tryz.ntmps16
  go_wp2_with (first | (go_at_call 36; (with_reducible refine hL.mono ?_); clear hL; rintro e w2 ⟨rfl, hw⟩; have hw2 := hw.symm; subst hw2))
  go_ret
  exact ⟨rfl, hb⟩

/-- Coins of one's own, read as coins. -/
theorem COwn.at {w : World} {lo hi n : Nat} {v : Value} {f : Nat → Co} {kv : Nat → Value} (h : COwn w lo hi v n f kv) {cs : List Co} (hn : cs.length = n) (hc : ∀ j, j < n → cs.getD j C0 = f j) (hl : ∀ j, j < n → (f j).l.length ≤ 1048576) :
    ∃ a c, v = .slice a n c ∧ CAt w a n cs := by
  obtain ⟨xs, h1, h2⟩ := h.row
  rcases id h1.2 with ⟨rfl, rfl⟩ | ⟨g, cap, cur, rfl, hbg, hgg, hnc, hcm, _⟩
  · exact ⟨none, 0, rfl, hn, .inl rfl⟩
  · refine ⟨some ⟨g, 0, none⟩, cap, rfl, hn, .inr ⟨g, 0, rfl, (h1.lt g rfl).2, fun j hj => ?_⟩⟩
    have hk := (h.keys j hj).1
    have h5 := hl j hj
    obtain ⟨a0, a1, a2, a3, a4, a5, a6, a7⟩ := h2 j hj
    have hxl := h1.1
    rw [hc j hj]
    have cell : ∀ i, i < 8 → w.cell? ⟨g, 0 + j * 8 + i, none⟩ = xs[j * 8 + i]? := fun i hi => by rw [Nat.zero_add]; exact h1.cellAt (j * 8 + i) (by omega)
    have cell0 : w.cell? ⟨g, 0 + j * 8, none⟩ = xs[j * 8]? := cell 0 (by omega)
    rcases id hk.2 with ⟨e, e2⟩ | ⟨g', cap', cur', e, _⟩
    · refine ⟨none, 0, ⟨cell0.trans a0, (cell 1 (by omega)).trans a1, (cell 2 (by omega)).trans a2, ?_, (cell 4 (by omega)).trans a4, (cell 5 (by omega)).trans a5, (cell 6 (by omega)).trans a6, (cell 7 (by omega)).trans a7⟩, by unfold maxLen; omega, rfl, .inl e2⟩
      rw [cell 3 (by omega), a3, e, e2]
    · refine ⟨some ⟨g', 0, none⟩, cap', ⟨cell0.trans a0, (cell 1 (by omega)).trans a1, (cell 2 (by omega)).trans a2, ?_, (cell 4 (by omega)).trans a4, (cell 5 (by omega)).trans a5, (cell 6 (by omega)).trans a6, (cell 7 (by omega)).trans a7⟩, by unfold maxLen; omega, ?_⟩
      · rw [cell 3 (by omega), a3, e]
      · rw [e] at hk
        exact IAt.owned hk rfl

theorem eqCR_any (p : Int) (a b : Option Addr) (n c1 c2 : Nat) (cs : List Co) (w : World) (hl : n ≤ 1048576) (hk : ∀ j, j < n → (cs.getD j C0).l.length ≤ 1048576) (ha : CAt w a n cs) (hb : CAt w b n cs) :
    Calls Tryz.prog 10 #[.agg #[.int .i64 p, .slice a n c1], .agg #[.int .i64 p, .slice b n c2]] w fun e w' => e = .returned (.bool true) ∧ Below w.heap.size w w' := by
  have hbx : Below w.heap.size w ((w.alloc (.cells #[.int .i64 p, .slice a n c1] 31)).alloc (.cells #[.int .i64 p, .slice b n c2] 31)) := below_box2 _ _
  have hS := eqCs_any a b n c1 c2 cs _ hl hk (ha.below hbx (Nat.le_refl _)) (hb.below hbx (Nat.le_refl _))
  have HBX : Hid (Below w.heap.size w ((w.alloc (.cells #[.int .i64 p, .slice a n c1] 31)).alloc (.cells #[.int .i64 p, .slice b n c2] 31))) := hbx
  clear hbx ha hb hk
  go_enter Tryz.func10, Tryz.ntmps10
  go_wp2_with (first
    | (go_at_call 11; (with_reducible refine hS.mono ?_); clear hS; rintro e w2 ⟨rfl, hb2⟩; have HBW : Hid (Below w.heap.size w w2) := HBX.out.trans (hb2.mono (by simp; omega)); clear hb2))
  go_ret
  exact ⟨rfl, HBW.out⟩

end Go.Proofs.YtngpegmfhhgkgaaGreatDoor
