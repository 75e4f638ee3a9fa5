/- Outs are marked, and the marks are read back. -/
import Derived.Test.YtppfhepipadepaaGreatDoorDx
import Derived.Test.YtppfhepipadepaaGreatDoorBm
namespace Go.Proofs.YtppfhepipadepaaGreatDoor
open Go.RowKit Go.Maps Go.WideMaps

theorem oown_afar {w : World} {lo hi n g cap : Nat} {f : Nat → Ou} {kv : Nat → Value} (h : OOwn w lo hi (.slice (some ⟨g, 0, none⟩) n cap) n f kv) {j : Nat} (hj : j < n) {b : Nat} (hb : (kv j).ownBlock = some b) : g ≠ b := by
  obtain ⟨xs, h1, _⟩ := h.row
  exact fun e => rows_apart (by decide) h1 (h.keys j hj).1 g rfl (by rw [hb, e])
theorem oown_four {w : World} {lo hi n g cap : Nat} {f : Nat → Ou} {kv : Nat → Value} (h : OOwn w lo hi (.slice (some ⟨g, 0, none⟩) n cap) n f kv) {j : Nat} (hj : j < n) {o : Ou} (hc : f j = o) {u : Value} (hu : kv j = u) :
    (w.cell? ⟨g, j * 4, none⟩ = some (.int .i64 o.v) ∧ w.cell? ⟨g, j * 4 + 1, none⟩ = some u ∧ w.cell? ⟨g, j * 4 + 2, none⟩ = some (.int .i64 o.x) ∧ w.cell? ⟨g, j * 4 + 3, none⟩ = some (.int .i64 o.y)) ∧ (w.frozen? ⟨g, j * 4, none⟩ = false ∧ w.frozen? ⟨g, j * 4 + 1, none⟩ = false ∧ w.frozen? ⟨g, j * 4 + 2, none⟩ = false ∧ w.frozen? ⟨g, j * 4 + 3, none⟩ = false) := by
  obtain ⟨xs, h1, h2⟩ := h.row
  have h3 := h2 j hj
  rw [hc, hu] at h3
  obtain ⟨a0, a1, a2, a3⟩ := h3
  have hl := h1.1
  exact ⟨⟨(h1.cellAt (j * 4) (by omega)).trans a0, (h1.cellAt (j * 4 + 1) (by omega)).trans a1, (h1.cellAt (j * 4 + 2) (by omega)).trans a2, (h1.cellAt (j * 4 + 3) (by omega)).trans a3⟩, h1.frozenAt _, h1.frozenAt _, h1.frozenAt _, h1.frozenAt _⟩

def mkOu (k : Nat) (o : Ou) : Ou := ⟨(k : Nat), mkKs (k + 1) o.l.length, (k + 1 + o.l.length : Nat), (k + 2 + o.l.length : Nat)⟩
def kOu (k : Nat) (f : Nat → Ou) : Nat → Nat
  | 0 => k
  | j + 1 => kOu k f j + 3 + (f j).l.length
def mkOuF (k : Nat) (f : Nat → Ou) (i : Nat) : Ou := mkOu (kOu k f i) (f i)
def mkOuT (k : Nat) (f : Nat → Ou) (j i : Nat) : Ou := if i < j then mkOuF k f i else f i
theorem kOu_le {k : Nat} {f : Nat → Ou} {n : Nat} (hl : ∀ j, j < n → (f j).l.length ≤ 1048576) : ∀ j, j ≤ n → kOu k f j ≤ k + j * 1048579 := by
  intro j
  induction j with
  | zero => intro _; simp [kOu]
  | succ j ih =>
    intro hj
    have h1 := ih (by omega)
    have h2 := hl j (by omega)
    simp only [kOu]
    omega

/-- In the midst of an out's marks: a number and the keys are written. -/
def OuMid (wr w4 : World) (lo g j : Nat) (kv : Nat → Value) (u0 : Int) (K len : Nat) : Prop :=
  w4.ownsRow lo 2 1 (kv j) len (mkI (K + 1) len) ∧ (wr.setCell ⟨g, j * 4, none⟩ (.int .i64 u0)).grownBy w4 (kv j).ownBlock

theorem ou_mid {wr : World} {lo hi g n cap j : Nat} {f : Nat → Ou} {kv : Nat → Value} {c : Ou} (h : OOwn wr lo hi (.slice (some ⟨g, 0, none⟩) n cap) n f kv) (hj : j < n) (hc : f j = c) (K : Nat) (hK : K + 1 + c.l.length ≤ 4611686018427387904) (u0 z : Int) (hz : z = (K + 1 : Nat)) :
    Calls Tryz.prog 69 #[kv j, .int .i64 z] (wr.setCell ⟨g, j * 4, none⟩ (.int .i64 u0)) fun e w' => e = .returned (.int .i64 (K + 1 + c.l.length : Nat)) ∧ Hid (OuMid wr w' lo g j kv u0 K c.l.length) := by
  subst hz
  have h1 := (h.keys j hj).1
  rw [hc] at h1
  have hb : ∀ b, (kv j).ownBlock = some b → g ≠ b := fun b hb => oown_afar h hj hb
  have set : ∀ (W : World) (i : Nat) (u : Value), W.ownsRow lo 2 1 (kv j) c.l.length (ints c.l) → (W.setCell ⟨g, i, none⟩ u).ownsRow lo 2 1 (kv j) c.l.length (ints c.l) := fun W i u hW => ownsRow_setCell_other hW (a := ⟨g, i, none⟩) (fun e => hb g e rfl) u
  exact (markK_any (kv j) c.l.length lo (K + 1) (ints c.l) _ hK (set _ _ _ h1)).mono fun e w' ⟨h1, h2, h3⟩ => ⟨h1, h2, h3⟩

theorem ou_cells {wr w4 : World} {lo hi g n cap j : Nat} {f : Nat → Ou} {kv : Nat → Value} {c : Ou} {u0 : Int} {K : Nat} (h : OOwn wr lo hi (.slice (some ⟨g, 0, none⟩) n cap) n f kv) (hj : j < n) (hc : f j = c) (hm : OuMid wr w4 lo g j kv u0 K c.l.length) :
    (w4.cell? ⟨g, j * 4 + 2, none⟩ = some (.int .i64 c.x) ∧ w4.cell? ⟨g, j * 4 + 3, none⟩ = some (.int .i64 c.y)) ∧ (w4.frozen? ⟨g, j * 4 + 2, none⟩ = false ∧ w4.frozen? ⟨g, j * 4 + 3, none⟩ = false) ∧ ∃ ys, Hid (w4.ownsRow lo 100 4 (.slice (some ⟨g, 0, none⟩) n cap) n ys ∧ ∀ i, i < n → CellsO ys i (if i = j then ⟨u0, c.l, c.x, c.y⟩ else f i) (kv i)) := by
  obtain ⟨xs, h1, h2⟩ := h.row
  have hg : (Value.slice (some ⟨g, 0, none⟩) n cap).ownBlock = some g := rfl
  have r1 := (h1.stored (j * 4) (.int .i64 u0)).1
  have r4 := r1.kept (w' := w4) hm.2 (.inr (by
    rw [hg]
    intro e
    exact oown_afar h hj e.symm rfl))
  have hl := h1.1
  have h3 := h2 j hj
  rw [hc] at h3
  obtain ⟨a0, a1, a2, a3⟩ := h3
  refine ⟨⟨?_, ?_⟩, ⟨r4.frozenAt _, r4.frozenAt _⟩, _, r4, fun i hi => ?_⟩
  · rw [r4.cellAt (j * 4 + 2) (by omega), List.getElem?_set_ne (by omega)]; exact a2
  · rw [r4.cellAt (j * 4 + 3) (by omega), List.getElem?_set_ne (by omega)]; exact a3
  · by_cases e : i = j
    · subst e
      rw [if_pos rfl]
      refine ⟨?_, ?_, ?_, ?_⟩
      · rw [List.getElem?_set_self (by omega)]
      · rw [List.getElem?_set_ne (by omega)]; exact a1
      · rw [List.getElem?_set_ne (by omega)]; exact a2
      · rw [List.getElem?_set_ne (by omega)]; exact a3
    · rw [if_neg e]
      obtain ⟨b0, b1, b2, b3⟩ := h2 i hi
      refine ⟨?_, ?_, ?_, ?_⟩
      · rw [List.getElem?_set_ne (by omega)]; exact b0
      · rw [List.getElem?_set_ne (by omega)]; exact b1
      · rw [List.getElem?_set_ne (by omega)]; exact b2
      · rw [List.getElem?_set_ne (by omega)]; exact b3

theorem ou_end {wr w4 : World} {lo hi g n cap j : Nat} {f : Nat → Ou} {kv : Nat → Value} {k : Nat} {c : Ou} {u0 u2 u3 : Int} {K : Nat} (h : OOwn wr lo hi (.slice (some ⟨g, 0, none⟩) n cap) n (mkOuT k f j) kv) (hj : j < n) (hc : f j = c) (hK : kOu k f j = K)
    (hm : OuMid wr w4 lo g j kv u0 K c.l.length) (e0 : u0 = (K : Nat)) (e2 : u2 = (K + 1 + c.l.length : Nat)) (e3 : u3 = (K + 2 + c.l.length : Nat)) :
    OOwn ((w4.setCell ⟨g, j * 4 + 2, none⟩ (.int .i64 u2)).setCell ⟨g, j * 4 + 3, none⟩ (.int .i64 u3)) lo hi (.slice (some ⟨g, 0, none⟩) n cap) n (mkOuT k f (j + 1)) kv := by
  have hcj : mkOuT k f j j = c := by unfold mkOuT; rw [if_neg (by omega), hc]
  obtain ⟨_, _, ys, HY⟩ := ou_cells h hj hcj hm
  obtain ⟨hrow, hcells⟩ := HY.out
  have r1 := (hrow.stored (j * 4 + 2) (.int .i64 u2)).1
  have r2 := (r1.stored (j * 4 + 3) (.int .i64 u3)).1
  have hl := hrow.1
  have hnew : mkOuT k f (j + 1) j = mkOu K c := by unfold mkOuT mkOuF; rw [if_pos (by omega), hK, hc]
  have hold : ∀ i, i ≠ j → mkOuT k f (j + 1) i = mkOuT k f j i := fun i hi => by
    unfold mkOuT
    by_cases a : i < j
    · rw [if_pos a, if_pos (by omega)]
    · rw [if_neg a, if_neg (by omega)]
  have far : ∀ i, i < n → ∀ b, (kv i).ownBlock = some b → g ≠ b := fun i hi b hb => oown_afar h hi hb
  refine ⟨⟨_, r2, fun i hi => ?_⟩, h.top, fun i hi => ?_, h.apart⟩
  · by_cases e : i = j
    · subst e
      have hx := hcells i hj
      rw [if_pos rfl] at hx
      obtain ⟨a0, a1, _⟩ := hx
      simp only at a0 a1
      rw [hnew]
      refine ⟨?_, ?_, ?_, ?_⟩
      · rw [List.getElem?_set_ne (by omega), List.getElem?_set_ne (by omega), a0, e0]; rfl
      · rw [List.getElem?_set_ne (by omega), List.getElem?_set_ne (by omega), a1]
      · rw [List.getElem?_set_ne (by omega), List.getElem?_set_self (by omega), e2]; rfl
      · rw [List.getElem?_set_self (by simp; omega), e3]; rfl
    · have hx := hcells i hi
      rw [if_neg e] at hx
      obtain ⟨b0, b1, b2, b3⟩ := hx
      rw [hold i e]
      refine ⟨?_, ?_, ?_, ?_⟩
      · rw [List.getElem?_set_ne (by omega), List.getElem?_set_ne (by omega)]; exact b0
      · rw [List.getElem?_set_ne (by omega), List.getElem?_set_ne (by omega)]; exact b1
      · rw [List.getElem?_set_ne (by omega), List.getElem?_set_ne (by omega)]; exact b2
      · rw [List.getElem?_set_ne (by omega), List.getElem?_set_ne (by omega)]; exact b3
  · have set : ∀ (W : World) (t : Nat) (u : Value) (m : Nat) (zs : List Value), W.ownsRow lo 2 1 (kv i) m zs → (W.setCell ⟨g, t, none⟩ u).ownsRow lo 2 1 (kv i) m zs := fun W t u m zs hW => ownsRow_setCell_other hW (a := ⟨g, t, none⟩) (fun e => far i hi g e rfl) u
    refine ⟨?_, (h.keys i hi).2⟩
    by_cases e : i = j
    · subst e
      rw [hnew]
      show World.ownsRow _ lo 2 1 (kv i) (mkKs (K + 1) c.l.length).length (ints (mkKs (K + 1) c.l.length))
      rw [mkKs_length, ints_mkKs]
      exact set _ _ _ _ _ (set _ _ _ _ _ hm.1)
    · rw [hold i e]
      have hk := (h.keys i hi).1
      refine set _ _ _ _ _ (set _ _ _ _ _ ?_)
      refine (set _ _ _ _ _ hk).kept hm.2 ?_
      cases hb : (kv i).ownBlock with
      | none => exact .inl rfl
      | some b =>
        refine .inr fun e2 => ?_
        rcases Nat.lt_or_ge i j with hij | hij
        · exact h.apart i j hij hj b hb e2.symm
        · exact h.apart j i (by omega) hi b e2.symm hb

theorem ou_chg {wr w4 : World} {lo hi g n cap j : Nat} {f : Nat → Ou} {kv : Nat → Value} {u0 u2 u3 : Int} {K len : Nat} (h : OOwn wr lo hi (.slice (some ⟨g, 0, none⟩) n cap) n f kv) (hj : j < n) (hm : OuMid wr w4 lo g j kv u0 K len) :
    Chg wr ((w4.setCell ⟨g, j * 4 + 2, none⟩ (.int .i64 u2)).setCell ⟨g, j * 4 + 3, none⟩ (.int .i64 u3)) lo hi := by
  obtain ⟨xs, h1, _⟩ := h.row
  have hg1 := (h1.lt g rfl).1
  have hg2 := h.top g rfl
  have set : ∀ (W : World) (t : Nat) (u : Value), Chg wr W lo hi → Chg wr (W.setCell ⟨g, t, none⟩ u) lo hi := fun W t u hW => hW.setCell ⟨hg1, hg2⟩ u
  have h3 := set _ (j * 4) (.int .i64 u0) (Chg.refl wr lo hi)
  have h4 : Chg wr w4 lo hi := h3.trans (Chg.of_grown hm.2 fun b hb => ⟨((h.keys j hj).1.lt b hb).1, (h.keys j hj).2 b hb⟩)
  exact set _ _ _ (set _ _ _ h4)

set_option maxRecDepth 20000 in
set_option maxHeartbeats 4000000 in
theorem markOu_any (v : Value) (n lo hi k : Nat) (f : Nat → Ou) (kv : Nat → Value) (w : World) (hn : n ≤ 1048576) (hl : ∀ j, j < n → (f j).l.length ≤ 1048576) (hk : k ≤ 1000000000000000) (h : OOwn w lo hi v n f kv) :
    Calls Tryz.prog 42 #[v, .int .i64 k] w fun e w' => e = .returned (.int .i64 (kOu k f n : Nat)) ∧ OOwn w' lo hi v n (mkOuF k f) kv ∧ Chg w w' lo hi := by
  obtain ⟨xs0, hr0, _⟩ := h.row
  rcases id hr0.2 with ⟨rfl, rfl⟩ | ⟨g, cap, cur, rfl, hbg, hgg, hnc, hcm, _⟩
  · go_enter Tryz.func42, Tryz.ntmps42
    go_wp2
    refine wp_loop_rounds 1 ?_
    rw [rounds_succ]
    go_wp2
    go_ret
    exact ⟨rfl, ⟨⟨[], World.ownsRow_nil _ _ _ _, fun j hj => by omega⟩, fun b hb => (by cases hb), fun j hj => (by omega), fun i j _ hj => (by omega)⟩, Chg.refl _ _ _⟩
  · have HO : Hid (OOwn w lo hi (.slice (some ⟨g, 0, none⟩) n cap) n f kv) := h
    have HL : Hid (∀ j, j < n → (f j).l.length ≤ 1048576) := hl
    clear h hr0 hbg hgg hnc hcm hl
    go_enter Tryz.func42, Tryz.ntmps42
    go_wp2
    go_loopw [1, 5] (fun a i wr => ∃ j : Nat, j ≤ n ∧ i = .int .i64 j ∧ ∃ K : Nat, a = .int .i64 K ∧ Hid (kOu k f j = K) ∧ Hid (OOwn wr lo hi (.slice (some ⟨g, 0, none⟩) n cap) n (mkOuT k f j) kv) ∧ Hid (Chg w wr lo hi)) (fun _ i _ => n - (intOf i).toNat)
    case atStart => exact ⟨0, Nat.zero_le _, rfl, k, rfl, rfl, HO.out, Chg.refl _ _ _⟩
    case round =>
      obtain ⟨j, hj, rfl, K, rfl, HK, HC, HG⟩ := hrel
      by_cases hlt : j < n
      · obtain ⟨c, hc⟩ : ∃ c, f j = c := ⟨_, rfl⟩
        have HF : Hid (f j = c) := hc
        have hcj : mkOuT k f j j = c := by unfold mkOuT; rw [if_neg (by omega), hc]
        obtain ⟨u, hu⟩ : ∃ u, kv j = u := ⟨_, rfl⟩
        have HU : Hid (kv j = u) := hu
        obtain ⟨⟨x0, x1, x2, x3⟩, f0, f1, f2, f3⟩ := oown_four HC.out hlt hcj hu
        have hKb : K ≤ 1000000000000000 + n * 1048579 := by have := kOu_le (k := k) HL.out j hj; rw [HK.out] at this; have h2 : j * 1048579 ≤ n * 1048579 := Nat.mul_le_mul_right _ hj; omega
        have hlc : c.l.length ≤ 1048576 := by rw [← hc]; exact HL.out j hlt
        obtain ⟨len, hlen⟩ : ∃ len, len = c.l.length := ⟨_, rfl⟩
        have HLEN : Hid (len = c.l.length) := hlen
        rw [← hlen] at hlc
        have hM := fun u0 z hz => ou_mid HC.out hlt hcj K (by omega) u0 z hz
        rw [hu, ← hlen] at hM
        have HKN : Hid (kOu k f (j + 1) = K + 3 + len) := by show kOu k f j + 3 + (f j).l.length = _; rw [HK.out, hc, hlen]
        clear hc hu hlen hcj
        have hki : (j : Int) < (n : Int) := by omega
        go_wp2_with (first
          | (go_at_call 69; refine (hM _ _ (by omega)).mono ?_; clear hM; rintro e w4 ⟨rfl, HM⟩; rw [HLEN.out] at HM; obtain ⟨⟨y2, y3⟩, ⟨q2, q3⟩, _⟩ := ou_cells HC.out hlt (show mkOuT k f j j = c by unfold mkOuT; rw [if_neg (by omega)]; exact HF.out) HM.out))
        go_roundw
        case rel =>
          refine ⟨j + 1, by omega, by go_num, K + 3 + len, by go_num, HKN.out, ?_, HG.out.trans (ou_chg HC.out hlt HM.out)⟩
          exact ou_end HC.out hlt HF.out HK.out HM.out (by omega) (by rw [← HLEN.out]; omega) (by rw [← HLEN.out]; omega)
        case measure => simp [intOf]; omega
      · obtain rfl : j = n := by omega
        go_wp2
        go_ret
        refine ⟨by rw [HK.out]; rfl, ?_, HG.out⟩
        obtain ⟨⟨xs, r1, r2⟩, r3, r4, r5⟩ := HC.out
        exact ⟨⟨xs, r1, fun i hi => by have := r2 i hi; unfold mkOuT at this; rwa [if_pos hi] at this⟩, r3, fun i hi => by have := r4 i hi; unfold mkOuT at this; rwa [if_pos hi] at this, r5⟩

set_option maxRecDepth 20000 in
set_option maxHeartbeats 4000000 in
theorem heldOu_any (v : Value) (n lo hi k : Nat) (f : Nat → Ou) (kv : Nat → Value) (w : World) (hn : n ≤ 1048576) (hl : ∀ j, j < n → (f j).l.length ≤ 1048576) (hk : k ≤ 1000000000000000) (h : OOwn w lo hi v n (mkOuF k f) kv) :
    Calls Tryz.prog 44 #[v, .int .i64 k] w fun e w' => e = .returned (.int .i64 (kOu k f n : Nat)) ∧ w' = w := by
  obtain ⟨xs0, hr0, _⟩ := h.row
  rcases id hr0.2 with ⟨rfl, rfl⟩ | ⟨g, cap, cur, rfl, hbg, hgg, hnc, hcm, _⟩
  · go_enter Tryz.func44, Tryz.ntmps44
    go_wp2
    refine wp_loop_rounds 1 ?_
    rw [rounds_succ]
    go_wp2
    go_ret
    exact ⟨rfl, rfl⟩
  · have HO : Hid (OOwn w lo hi (.slice (some ⟨g, 0, none⟩) n cap) n (mkOuF k f) kv) := h
    have HL : Hid (∀ j, j < n → (f j).l.length ≤ 1048576) := hl
    clear h hr0 hbg hgg hnc hcm hl
    go_enter Tryz.func44, Tryz.ntmps44
    go_wp2
    go_loopw [1, 5] (fun a i wr => ∃ j : Nat, j ≤ n ∧ i = .int .i64 j ∧ ∃ K : Nat, a = .int .i64 K ∧ Hid (kOu k f j = K) ∧ wr = w) (fun _ i _ => n - (intOf i).toNat)
    case atStart => exact ⟨0, Nat.zero_le _, rfl, k, rfl, rfl, rfl⟩
    case round =>
      obtain ⟨j, hj, rfl, K, rfl, HK, hw⟩ := hrel
      have hw2 := hw.symm
      subst hw2
      by_cases hlt : j < n
      · obtain ⟨len, hlen⟩ : ∃ len, len = (f j).l.length := ⟨_, rfl⟩
        have hcj : mkOuF k f j = mkOu K (f j) := by unfold mkOuF; rw [HK.out]
        obtain ⟨u, hu⟩ : ∃ u, kv j = u := ⟨_, rfl⟩
        obtain ⟨⟨x0, x1, x2, x3⟩, _⟩ := oown_four HO.out hlt hcj hu
        have hKb : K ≤ 1000000000000000 + n * 1048579 := by have := kOu_le (k := k) HL.out j hj; rw [HK.out] at this; have h2 : j * 1048579 ≤ n * 1048579 := Nat.mul_le_mul_right _ hj; omega
        have hlc : len ≤ 1048576 := by rw [hlen]; exact HL.out j hlt
        have hkr := (HO.out.keys j hlt).1
        rw [hcj, hu] at hkr
        have hkr2 : w.ownsRow lo 2 1 u len (mkI (K + 1) len) := by
          have e : (mkOu K (f j)).l = mkKs (K + 1) len := by rw [hlen]; rfl
          rw [e, mkKs_length, ints_mkKs] at hkr
          exact hkr
        have hM : ∀ z : Int, z = (K + 1 : Nat) → Calls Tryz.prog 70 #[u, .int .i64 z] w fun e w' => e = .returned (.int .i64 (K + 1 + len : Nat)) ∧ w' = w := fun z hz => by subst hz; exact heldK_any u len lo (K + 1) w (by omega) hkr2
        have HKN : Hid (kOu k f (j + 1) = K + 3 + len) := by show kOu k f j + 3 + (f j).l.length = _; rw [HK.out, hlen]
        have e0 : w.cell? ⟨g, j * 4, none⟩ = some (.int .i64 (K : Int)) := x0
        have e2 : w.cell? ⟨g, j * 4 + 2, none⟩ = some (.int .i64 ((K : Int) + 1 + (len : Int))) := by rw [x2]; simp [mkOu, ← hlen]
        have e3 : w.cell? ⟨g, j * 4 + 3, none⟩ = some (.int .i64 ((K : Int) + 1 + (len : Int) + 1)) := by rw [x3]; simp [mkOu, ← hlen]; omega
        clear hlen hcj hu hkr hkr2 x0 x2 x3
        have hki : (j : Int) < (n : Int) := by omega
        go_wp2_with (first
          | (go_at_call 70; refine (hM _ (by omega)).mono ?_; clear hM; rintro e w4 ⟨rfl, hw⟩; have hw2 := hw.symm; subst hw2))
        go_roundw
        case rel => exact ⟨j + 1, by omega, by go_num, K + 3 + len, by go_num, HKN.out, (by first | rfl | trivial)⟩
        case measure => simp [intOf]; omega
      · obtain rfl : j = n := by omega
        go_wp2
        go_ret
        exact ⟨by rw [HK.out]; rfl, rfl⟩

end Go.Proofs.YtppfhepipadepaaGreatDoor
