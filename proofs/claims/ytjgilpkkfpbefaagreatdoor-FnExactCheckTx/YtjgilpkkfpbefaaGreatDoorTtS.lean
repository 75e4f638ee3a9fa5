/- The specification's text of a transaction: blanks swapped for underscores. -/
import Derived.Test.YtjgilpkkfpbefaaGreatDoorRtT
import Derived.Lib.ConvBytes
namespace Go.Proofs.YtjgilpkkfpbefaaGreatDoor
open Go.RowKit Go.Shelf Go.Maps Go.WideMaps

def swp (c : UInt8) : UInt8 := if c = 32 then 95 else c
structure SwAt (w wr : World) (t : List UInt8) (k : Nat) : Prop where
  bel : Below w.heap.size w wr
  c : ∀ j, j < t.length → wr.cell? ⟨w.heap.size, j, none⟩ = some (.int .u8 (if j < k then swp (t.getD j 0) else t.getD j 0).toNat)
  f : ∀ j, j < t.length → wr.frozen? ⟨w.heap.size, j, none⟩ = false

theorem bytes_below (w : World) (e : TypeId) (s : ByteArray) : Below w.heap.size w (Lib.bytesWorld w e s) :=
  ⟨rfl, rfl, rfl, by rw [Lib.bytesWorld_size]; omega, fun k hk => Lib.bytesWorld_at_old w e s k hk⟩
theorem SwAt.start (w : World) (t : List UInt8) : SwAt w (Lib.bytesWorld w 5 (str t)) t 0 := by
  refine ⟨bytes_below _ _ _, fun j hj => ?_, fun j hj => ?_⟩
  · have := Lib.bytesWorld_cell w 5 (str t) j hj
    simpa [str] using this
  · have hs : t.length ≤ (Lib.bytesCells w 5 (str t)).size := by simp [Lib.bytesCells, str]
    unfold World.frozen?
    rw [Lib.bytesWorld_at_new]
    simp
    omega
theorem SwAt.same {w wr : World} {t : List UInt8} {k : Nat} (h : SwAt w wr t k) (hs : swp (t.getD k 0) = t.getD k 0) : SwAt w wr t (k + 1) := by
  refine ⟨h.bel, fun j hj => ?_, h.f⟩
  rw [h.c j hj]
  by_cases e : j = k
  · subst e; simp only [Nat.lt_irrefl, if_false, Nat.lt_succ_self, if_true, hs]
  · by_cases e2 : j < k
    · rw [if_pos e2, if_pos (by omega)]
    · rw [if_neg e2, if_neg (by omega)]
theorem SwAt.set {w wr : World} {t : List UInt8} {k : Nat} (h : SwAt w wr t k) (hk : k < t.length) (hs : swp (t.getD k 0) = 95) : SwAt w (wr.setCell ⟨w.heap.size, k, none⟩ (.int .u8 95)) t (k + 1) := by
  refine ⟨h.bel.setCell (p := ⟨w.heap.size, k, none⟩) (Nat.le_refl _) _, fun j hj => ?_, fun j hj => by rw [World.frozen?_setCell]; exact h.f j hj⟩
  by_cases e : j = k
  · subst e
    rw [World.cell?_setCell_same _ _ _ (h.c j hj), if_pos (Nat.lt_succ_self _), hs]
    rfl
  · rw [World.cell?_setCell_other _ _ _ _ (by intro e2; cases e2; exact e rfl), h.c j hj]
    by_cases e2 : j < k
    · rw [if_pos e2, if_pos (by omega)]
    · rw [if_neg e2, if_neg (by omega)]
theorem SwAt.conv {w wr : World} {t : List UInt8} {k cap : Nat} (h : SwAt w wr t k) (hk : ¬ k < t.length) : (convert 174 9 (.slice (some ⟨w.heap.size, 0, none⟩) t.length cap)).run Tryz.prog wr = .ok (.string (str (t.map swp))) wr := by
  have := run_convert_bytes_arg wr 174 5 Tryz.underlying174 Tryz.underlying5 w.heap.size 0 t.length cap ((t.map swp).map fun b => (b.toNat : Int)) (by simp) (fun i hi => by
    have e := h.c i hi
    rw [if_pos (by omega)] at e
    simpa [List.getD, hi] using e) 9 Tryz.underlying9
  rw [this]
  have e : strOfNums ((t.map swp).map fun b => (b.toNat : Int)) = str (t.map swp) := by
    simp [strOfNums, str, Function.comp_def]
  rw [e]

set_option maxRecDepth 20000 in
set_option maxHeartbeats 1000000 in
theorem l3Swap_any (t : List UInt8) (w : World) (ht : t.length ≤ 1000000) : Calls Tryz.prog 75 #[.string (str t), .int .u8 32, .int .u8 95] w fun e w' => e = .returned (.string (str (t.map swp))) ∧ Below w.heap.size w w' := by
  obtain ⟨cap, hcap⟩ : ∃ c, c = grownCap w (str t).size 0 5 := ⟨_, rfl⟩
  obtain ⟨W0, hW0⟩ : ∃ W0, W0 = Lib.bytesWorld w 5 (str t) := ⟨_, rfl⟩
  have hcv := Lib.run_convert_string_bytes w 9 174 5 (str t) Tryz.underlying9 Tryz.underlying174 Tryz.underlying5
  have h0 := SwAt.start w t
  rw [← hcap, ← hW0] at hcv
  rw [← hW0] at h0
  have HS0 : Hid (SwAt w W0 t 0) := h0
  obtain ⟨n, hn⟩ : ∃ n, n = t.length := ⟨_, rfl⟩
  have hsz : (str t).size = n := hn.symm
  rw [hsz] at hcv
  have HN : Hid (n = t.length) := hn
  obtain ⟨r, hr⟩ : ∃ r, r = t.map swp := ⟨_, rfl⟩
  have HR : Hid (r = t.map swp) := hr
  rw [← hr]
  have hnb : n ≤ 1000000 := by omega
  clear hcap hW0 h0 hn hr hsz ht
  go_enter Tryz.func75, Tryz.ntmps75
  go_wp2
  go_loopw [8] (fun i wr => ∃ j : Nat, j ≤ n ∧ i = .int .i64 j ∧ Hid (SwAt w wr t j)) (fun i _ => n - (intOf i).toNat)
  case atStart => exact ⟨0, Nat.zero_le _, rfl, HS0⟩
  case round =>
    obtain ⟨j, hj, rfl, HS⟩ := hrel
    by_cases hlt : j < n
    · have hl2 : j < t.length := by rw [← HN.out]; exact hlt
      have hc := HS.out.c j hl2
      have hf := HS.out.f j hl2
      rw [if_neg (Nat.lt_irrefl _)] at hc
      obtain ⟨ch, hch⟩ : ∃ c, c = t.getD j 0 := ⟨_, rfl⟩
      rw [← hch] at hc
      have HCH : Hid (ch = t.getD j 0) := hch
      have HL2 : Hid (j < t.length) := hl2
      clear hch hl2
      have hki : (j : Int) < (n : Int) := by omega
      by_cases h32 : ch = 32
      · subst h32
        have HS2 := show Hid (SwAt w _ t (j + 1)) from HS.out.set HL2.out (by rw [← HCH.out]; rfl)
        have hc2 : wr.cell? ⟨w.heap.size, j, none⟩ = some (.int .u8 32) := hc
        clear hc
        go_wp2
        go_roundw
        case rel => exact ⟨j + 1, by omega, by go_num, HS2⟩
        case measure => simp [intOf]; omega
      · have HS2 := show Hid (SwAt w _ t (j + 1)) from HS.out.same (by rw [← HCH.out]; simp [swp, h32])
        have hne : ((ch.toNat : Int) == 32) = false := by
          have : ch.toNat ≠ 32 := fun e => h32 (UInt8.toNat_inj.1 e)
          simp; omega
        go_wp2
        go_roundw
        case rel => exact ⟨j + 1, by omega, by go_num, HS2⟩
        case measure => simp [intOf]; omega
    · have hcb := HS.out.conv (cap := cap) (by rw [← HN.out]; exact hlt)
      rw [← HN.out, ← HR.out] at hcb
      have HB : Hid (Below w.heap.size w wr) := HS.out.bel
      go_wp2
      go_ret
      exact ⟨rfl, HB.out⟩

set_option maxRecDepth 20000 in
set_option maxHeartbeats 2000000 in
/-- The text of a rule that lies inside another thing. -/
theorem l2TextAt_any (P q n cap : Nat) (a : Option Addr) (l : List Int) (x y : Int) (w : World) (hn1 : 1 ≤ n) (hn3 : n ≤ 3) (hx : 0 ≤ x ∧ x ≤ 999) (hy : 0 ≤ y ∧ y ≤ 999) (hk : ∀ j, j < n → 0 ≤ l.getD j 0 ∧ l.getD j 0 ≤ 999) (hI : IAt w a n l) (hPl : P < w.heap.size) (p0 : w.cell? ⟨P, q, none⟩ = some (.slice a n cap)) (p1 : w.cell? ⟨P, q + 1, none⟩ = some (.int .i64 x)) (p2 : w.cell? ⟨P, q + 2, none⟩ = some (.int .i64 y)) :
    Calls Tryz.prog 76 #[.pointer (some ⟨P, q, none⟩)] w fun e w' => e = .returned (.string (str (rtxR l x y))) ∧ Below w.heap.size w w' := by
  obtain ⟨rt, hrt⟩ : ∃ r, r = rtxR l x y := ⟨_, rfl⟩
  rw [← hrt]
  have HRT : Hid (rt = rtxR l x y) := hrt
  clear hrt
  have HN : Hid (l.length = n) := hI.1
  rcases hI.2 with h0 | ⟨b, off, e0, l0, d0⟩
  · omega
  subst e0
  have HD : Hid (∀ j, j < n → w.cell? ⟨b, off + j, none⟩ = some (.int .i64 (l.getD j 0))) := d0
  have HK : Hid (∀ j, j < n → 0 ≤ l.getD j 0 ∧ l.getD j 0 ≤ 999) := hk
  obtain ⟨k0, hk0⟩ : ∃ k, k = l.getD 0 0 := ⟨_, rfl⟩
  have c0 := d0 0 (by omega)
  have hkb := hk 0 (by omega)
  rw [← hk0] at c0 hkb
  simp only [Nat.add_zero] at c0
  have HK0 : Hid (k0 = l.getD 0 0) := hk0
  obtain ⟨dx, hdx⟩ : ∃ o, o = dec x := ⟨_, rfl⟩
  obtain ⟨dk, hdk⟩ : ∃ o, o = dec k0 := ⟨_, rfl⟩
  have hlx : dx.length ≤ 10 := by rw [hdx]; exact dec_len hx.2
  have hlk : dk.length ≤ 10 := by rw [hdk]; exact dec_len hkb.2
  have hA : ∀ W, Calls Tryz.prog 74 #[.int .i64 x] W fun e w' => e = .returned (.string (str dx)) ∧ Below W.heap.size W w' := fun W => by rw [hdx]; exact digits_int hx.1 hx.2 W
  have hB : ∀ W, Calls Tryz.prog 74 #[.int .i64 k0] W fun e w' => e = .returned (.string (str dk)) ∧ Below W.heap.size W w' := fun W => by rw [hdk]; exact digits_int hkb.1 hkb.2 W
  have hss : ∀ z : List UInt8, (str z).size = z.length := fun _ => rfl
  have hof : ∀ z : List UInt8, str z ++ ⟨#[32, 111, 102, 32]⟩ = str (z ++ [32, 111, 102, 32]) := fun z => str_append z _
  have happ : ∀ z r : List UInt8, str z ++ str r = str (z ++ r) := str_append
  have HDX : Hid (dx = dec x) := hdx
  have HDK : Hid (dk = dec k0) := hdk
  clear hI hk d0 hk0 hdx hdk
  have hni : 0 < (n : Int) := by omega
  have hnn : 0 < n := by omega
  have hz1 : ¬ 9223372036854775807 < dx.length + 4 := by omega
  have hz2 : ¬ 9223372036854775807 < dx.length + 4 + dk.length := by omega
  go_enter Tryz.func76, Tryz.ntmps76
  go_wp2
  go_region_held3 (fun w' => w'.cell? ⟨P, q, none⟩ = some (.slice (some ⟨b, off, none⟩) n cap) ∧ w'.cell? ⟨P, q + 1, none⟩ = some (.int .i64 x) ∧ w'.cell? ⟨b, off, none⟩ = some (.int .i64 k0)) (go_keep)
    (first
      | (go_at_call 74; (first
          | (have hA' := hA; (with_reducible refine (hA' _).mono ?_); clear hA hA'; rintro e w1 ⟨rfl, hb1⟩; have z0 := (hb1.cell (p := ⟨P, q, none⟩) hPl).trans p0; have z1 := (hb1.cell (p := ⟨P, q + 1, none⟩) hPl).trans p1; have z2 := (hb1.cell (p := ⟨b, off, none⟩) l0).trans c0; have hs1 : w.heap.size ≤ w1.heap.size := hb1.size)
          | ((with_reducible refine (hB _).mono ?_); rintro e w2 ⟨rfl, hb2⟩; have y0 := (hb2.cell (p := ⟨P, q, none⟩) (Nat.lt_of_lt_of_le hPl hs1)).trans z0; have y1 := (hb2.cell (p := ⟨P, q + 1, none⟩) (Nat.lt_of_lt_of_le hPl hs1)).trans z1; have y2 := (hb2.cell (p := ⟨b, off, none⟩) (Nat.lt_of_lt_of_le l0 hs1)).trans z2))))
  have HB2 : Hid (Below w.heap.size w w2) := (show Below w.heap.size w w1 from (Below.refl _ _).drew.trans hb1).trans (hb2.mono hs1)
  obtain ⟨o0, ho0⟩ : ∃ o, o = dx ++ 32 :: 111 :: 102 :: 32 :: dk := ⟨_, rfl⟩
  have hlo : o0.length ≤ 24 := by rw [ho0]; simp; omega
  have HO0 : Hid (o0 = dec x ++ [32, 111, 102, 32] ++ keysT (l.take 1)) := by
    show _ = _
    have e1 : l.take 1 = [k0] := by
      have := take_next HN.out (show 0 < n by omega) HK0.out
      simpa using this
    rw [ho0, HDX.out, HDK.out, e1]
    simp [keysT, tailT]
  rw [← ho0]
  clear ho0 HDX HDK hz1 hz2 hof hB z0 z1 z2 y0 y1 y2 hb1 hb2 hs1 c0 hkb HK0 hlx hlk p1
  have hcm : ∀ z : List UInt8, str z ++ ⟨#[44]⟩ = str (z ++ [44]) := fun z => str_append z _
  have haf : ∀ z : List UInt8, str z ++ ⟨#[32, 97, 102, 116, 101, 114, 32]⟩ = str (z ++ [32, 97, 102, 116, 101, 114, 32]) := fun z => str_append z _
  go_wp2
  go_loopw [3, 4] (fun v i wr => ∃ j : Nat, 1 ≤ j ∧ j ≤ n ∧ i = .int .i64 j ∧ ∃ o : List UInt8, v = .string (str o) ∧ o.length ≤ 24 + 11 * j ∧ Hid (o = dec x ++ [32, 111, 102, 32] ++ keysT (l.take j)) ∧ Below w.heap.size w wr) (fun _ i _ => n - (intOf i).toNat)
  case atStart => exact ⟨1, Nat.le_refl _, hn1, rfl, o0, rfl, by omega, HO0, HB2.out⟩
  case round =>
    obtain ⟨j, hj1, hj, rfl, o, rfl, hol, HO, hbel⟩ := hrel
    have y0 := (hbel.cell (p := ⟨P, q, none⟩) hPl).trans p0
    have y2 := (hbel.cell (p := ⟨P, q + 2, none⟩) hPl).trans p2
    by_cases hlt : j < n
    · obtain ⟨kj, hkj⟩ : ∃ k, k = l.getD j 0 := ⟨_, rfl⟩
      have cj := (hbel.cell (p := ⟨b, off + j, none⟩) l0).trans (HD.out j hlt)
      have hkb := HK.out j hlt
      rw [← hkj] at cj hkb
      have HKJ : Hid (kj = l.getD j 0) := hkj
      obtain ⟨dj, hdj⟩ : ∃ o, o = dec kj := ⟨_, rfl⟩
      have hlj : dj.length ≤ 10 := by rw [hdj]; exact dec_len hkb.2
      have hB : ∀ W, Calls Tryz.prog 74 #[.int .i64 kj] W fun e w' => e = .returned (.string (str dj)) ∧ Below W.heap.size W w' := fun W => by rw [hdj]; exact digits_int hkb.1 hkb.2 W
      have HDJ : Hid (dj = dec kj) := hdj
      clear hkj hdj hkb
      have hki : (j : Int) < (n : Int) := by omega
      have hz1 : ¬ 9223372036854775807 < o.length + 1 := by omega
      have hz2 : ¬ 9223372036854775807 < o.length + 1 + dj.length := by omega
      go_wp2_with (go_at_call 74; refine (hB _).mono ?_; rintro e w3 ⟨rfl, hb3⟩)
      go_roundw
      case rel =>
        refine ⟨j + 1, by omega, by omega, by go_num, _, rfl, by simp; omega, ?_, hbel.trans (hb3.mono hbel.size)⟩
        show _ = _
        have e1 := take_next HN.out hlt HKJ.out
        have e2 : l.take j ≠ [] := by
          intro e
          have := congrArg List.length e
          rw [List.length_take, HN.out] at this
          simp at this
          omega
        rw [e1, keysT_snoc e2, HO.out, HDJ.out]
        simp
      case measure => simp [intOf]; omega
    · have e1 : l.take j = l := take_all HN.out hlt
      have HO2 : Hid (o = dec x ++ [32, 111, 102, 32] ++ keysT l) := by show _ = _; rw [HO.out, e1]
      clear HO e1
      by_cases hy0 : y = 0
      · subst hy0
        obtain rfl : rt = o := by rw [HRT.out, HO2.out]; simp [rtxR, aftT]
        go_wp2
        go_ret
        exact ⟨rfl, hbel⟩
      · obtain ⟨dy, hdy⟩ : ∃ o, o = dec y := ⟨_, rfl⟩
        obtain rfl : rt = o ++ ([32, 97, 102, 116, 101, 114, 32] ++ dy) := by rw [HRT.out, HO2.out, hdy]; simp [rtxR, aftT, hy0]
        have hly : dy.length ≤ 10 := by rw [hdy]; exact dec_len hy.2
        have hB : ∀ W, Calls Tryz.prog 74 #[.int .i64 y] W fun e w' => e = .returned (.string (str dy)) ∧ Below W.heap.size W w' := fun W => by rw [hdy]; exact digits_int hy.1 hy.2 W
        have hyb : (y == 0) = false := by simpa using hy0
        have hz1 : ¬ 9223372036854775807 < o.length + 7 := by omega
        have hz2 : ¬ 9223372036854775807 < o.length + 7 + dy.length := by omega
        clear hdy
        go_wp2_with (go_at_call 74; refine (hB _).mono ?_; rintro e w3 ⟨rfl, hb3⟩)
        go_ret
        exact ⟨by simp, hbel.trans (hb3.mono hbel.size)⟩

end Go.Proofs.YtjgilpkkfpbefaaGreatDoor
