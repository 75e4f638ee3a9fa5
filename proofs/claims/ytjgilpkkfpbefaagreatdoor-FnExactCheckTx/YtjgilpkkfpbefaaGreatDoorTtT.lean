/- The specification's text of a transaction, the whole. -/
import Derived.Test.YtjgilpkkfpbefaaGreatDoorTtS
import Derived.Test.YtjgilpkkfpbefaaGreatDoorJn2
namespace Go.Proofs.YtjgilpkkfpbefaaGreatDoor
open Go.RowKit Go.Shelf Go.Maps Go.WideMaps

theorem digits_big {k : Int} (h0 : 0 ≤ k) (h1 : k ≤ 1000000) (w : World) : Calls Tryz.prog 74 #[.int .i64 k] w fun e w' => e = .returned (.string (str (dec k))) ∧ Below w.heap.size w w' := by
  obtain ⟨n, rfl⟩ := Int.eq_ofNat_of_zero_le h0
  exact l2Digits_any n (by omega) w
theorem dec_big {k : Int} (h : k ≤ 1000000) : (dec k).length ≤ 10 := digits_len _ (by omega)

def kindT (k : Int) : List UInt8 := if k = 0 then [112, 97, 121] else if k = 1 then [106, 111, 105, 110, 32] else [108, 101, 97, 118, 101, 32]
def headT (k f : Int) : List UInt8 := kindT k ++ (if k = 0 then [] else dec f)
def refT (r : Int × Int) : List UInt8 := dec r.1 ++ (58 :: dec r.2)
def refsT : List (Int × Int) → List UInt8
  | [] => []
  | r :: t => 32 :: (refT r ++ t.flatMap fun r => 43 :: refT r)
def outT (o : Ou) : List UInt8 := 32 :: (dec o.v ++ (61 :: (rtxR o.l o.x o.y).map swp))
def txT (k f : Int) (rs : List (Int × Int)) (os : List Ou) : List UInt8 := headT k f ++ refsT rs ++ os.flatMap outT

theorem refsT_snoc (l : List (Int × Int)) (r : Int × Int) : refsT (l ++ [r]) = refsT l ++ ((if l.length = 0 then 32 else 43) :: refT r) := by
  cases l with
  | nil => simp [refsT]
  | cons a t => simp [refsT]

structure OutOk (o : Ou) : Prop where
  v : 0 ≤ o.v ∧ o.v ≤ 1000000
  n : 1 ≤ o.l.length ∧ o.l.length ≤ 3
  x : 0 ≤ o.x ∧ o.x ≤ 999
  y : 0 ≤ o.y ∧ o.y ≤ 999
  k : ∀ j, j < o.l.length → 0 ≤ o.l.getD j 0 ∧ o.l.getD j 0 ≤ 999
structure TxOk (k f : Int) (rs : List (Int × Int)) (os : List Ou) : Prop where
  k : k = 0 ∨ k = 1 ∨ k = 2
  f : 0 ≤ f ∧ f ≤ 999
  n : rs.length ≤ 4
  m : os.length ≤ 4
  r : ∀ j, j < rs.length → (0 ≤ (rs.getD j G0).1 ∧ (rs.getD j G0).1 ≤ 999) ∧ 0 ≤ (rs.getD j G0).2 ∧ (rs.getD j G0).2 ≤ 999
  o : ∀ j, j < os.length → OutOk (os.getD j O0)

theorem tail_len {l : List Int} (hk : ∀ k ∈ l, k ≤ 999) : (tailT l).length ≤ 11 * l.length := by
  induction l with
  | nil => simp [tailT]
  | cons a t ih =>
    have h1 := dec_len (hk a (by simp))
    have h2 := ih fun k hk' => hk k (by simp [hk'])
    simp [tailT]; omega
theorem rtx_len {o : Ou} (h : OutOk o) : (rtxR o.l o.x o.y).length ≤ 100 := by
  have hx := dec_len h.x.2
  have hy := dec_len h.y.2
  have hk : ∀ k ∈ o.l, k ≤ 999 := fun k hk => by
    obtain ⟨j, hj, e⟩ := List.getElem_of_mem hk
    have := (h.k j hj).2
    simpa [List.getD, hj, e] using this
  have hn := h.n
  have h1 : (keysT o.l).length ≤ 11 * o.l.length := by
    cases hl : o.l with
    | nil => simp [keysT]
    | cons a t =>
      rw [hl] at hk
      have h1 := dec_len (hk a (by simp))
      have h2 := tail_len (l := t) fun k hk' => hk k (by simp [hk'])
      simp [keysT]; omega
  have h2 : (aftT o.y).length ≤ 17 := by unfold aftT; split <;> simp; omega
  unfold rtxR
  simp
  omega

theorem take_next2 {α : Type} {l : List α} {n j : Nat} {d g : α} (hn : l.length = n) (hj : j < n) (hg : g = l.getD j d) : l.take (j + 1) = l.take j ++ [g] := by
  subst hg
  rw [List.take_add_one, List.getElem?_eq_getElem (by omega), List.getD, List.getElem?_eq_getElem (by omega)]
  rfl

set_option maxRecDepth 20000 in
set_option maxHeartbeats 2000000 in
theorem l3Text_any (P n c m d : Nat) (ia oa : Option Addr) (k f : Int) (rs : List (Int × Int)) (os : List Ou) (w : World) (hok : TxOk k f rs os) (h : TxAt w ia n oa m rs os) (hPl : P < w.heap.size)
    (p0 : w.cell? ⟨P, 0, none⟩ = some (.int .i64 k)) (p1 : w.cell? ⟨P, 1, none⟩ = some (.int .i64 f)) (p2 : w.cell? ⟨P, 2, none⟩ = some (.slice ia n c)) (p3 : w.cell? ⟨P, 3, none⟩ = some (.slice oa m d)) :
    Calls Tryz.prog 50 #[.pointer (some ⟨P, 0, none⟩)] w fun e w' => e = .returned (.string (str (txT k f rs os))) ∧ Below w.heap.size w w' := by
  obtain ⟨rt, hrt⟩ : ∃ r, r = txT k f rs os := ⟨_, rfl⟩
  rw [← hrt]
  have HRT : Hid (rt = txT k f rs os) := hrt
  have HT : Hid (TxAt w ia n oa m rs os) := h
  have HOK : Hid (TxOk k f rs os) := hok
  have HN : Hid (rs.length = n) := h.r.1
  have HM : Hid (os.length = m) := h.o.1
  have hn4 : n ≤ 4 := by rw [← HN.out]; exact hok.n
  have hm4 : m ≤ 4 := by rw [← HM.out]; exact hok.m
  have hff := hok.f
  obtain ⟨df, hdf⟩ : ∃ o, o = dec f := ⟨_, rfl⟩
  have hlf : df.length ≤ 10 := by rw [hdf]; exact dec_len hff.2
  have hF : ∀ W, Calls Tryz.prog 74 #[.int .i64 f] W fun e w' => e = .returned (.string (str df)) ∧ Below W.heap.size W w' := fun W => by rw [hdf]; exact digits_int hff.1 hff.2 W
  have hss : ∀ z : List UInt8, (str z).size = z.length := fun _ => rfl
  have happ : ∀ z r : List UInt8, str z ++ str r = str (z ++ r) := str_append
  have hj1 : ∀ r : List UInt8, (⟨#[106, 111, 105, 110, 32]⟩ : ByteArray) ++ str r = str ([106, 111, 105, 110, 32] ++ r) := fun r => str_append [106, 111, 105, 110, 32] r
  have hj2 : ∀ r : List UInt8, (⟨#[108, 101, 97, 118, 101, 32]⟩ : ByteArray) ++ str r = str ([108, 101, 97, 118, 101, 32] ++ r) := fun r => str_append [108, 101, 97, 118, 101, 32] r
  have HDF : Hid (df = dec f) := hdf
  clear hrt h hok hdf
  have hc32 : ∀ z : List UInt8, str z ++ ⟨#[32]⟩ = str (z ++ [32]) := fun z => str_append z _
  have hc43 : ∀ z : List UInt8, str z ++ ⟨#[43]⟩ = str (z ++ [43]) := fun z => str_append z _
  have hc58 : ∀ z : List UInt8, str z ++ ⟨#[58]⟩ = str (z ++ [58]) := fun z => str_append z _
  have hc61 : ∀ z : List UInt8, str z ++ ⟨#[61]⟩ = str (z ++ [61]) := fun z => str_append z _
  -- the head
  rcases HOK.out.k with hk0 | hk0 | hk0
  all_goals subst hk0
  · go_enter Tryz.func50, Tryz.ntmps50
    go_wp2
    go_loopw [3, 4] (fun v i wr => ∃ j : Nat, j ≤ n ∧ i = .int .i64 j ∧ ∃ o : List UInt8, v = .string (str o) ∧ o.length ≤ 20 + 22 * j ∧ Hid (o = headT 0 f ++ refsT (rs.take j)) ∧ Below w.heap.size w wr) (fun _ i _ => n - (intOf i).toNat)
    case atStart => exact ⟨0, Nat.zero_le _, rfl, [112, 97, 121], rfl, by simp, by show _ = _; simp [headT, kindT, refsT], below_box _⟩
    case round =>
      obtain ⟨j, hj, rfl, o, rfl, hol, HO, hbel⟩ := hrel
      have y2 := (hbel.cell (p := ⟨P, 2, none⟩) hPl).trans p2
      have y3 := (hbel.cell (p := ⟨P, 3, none⟩) hPl).trans p3
      have hPr := Nat.lt_of_lt_of_le hPl hbel.size
      by_cases hlt : j < n
      · rcases HT.out.r.2 with h0 | ⟨b, off, e0, l0, d0⟩
        · omega
        subst e0
        obtain ⟨g, hg⟩ : ∃ g, g = rs.getD j G0 := ⟨_, rfl⟩
        have hcx := d0 j hlt
        have hrb := HOK.out.r j (by rw [HN.out]; exact hlt)
        rw [← hg] at hcx hrb
        obtain ⟨g1, g2⟩ := g
        have c0 := (hbel.cell (p := ⟨b, off + j * 2, none⟩) l0).trans hcx.1
        have c1 := (hbel.cell (p := ⟨b, off + j * 2 + 1, none⟩) l0).trans hcx.2
        have hbr := Nat.lt_of_lt_of_le l0 hbel.size
        obtain ⟨d1, hd1⟩ : ∃ o, o = dec g1 := ⟨_, rfl⟩
        obtain ⟨d2, hd2⟩ : ∃ o, o = dec g2 := ⟨_, rfl⟩
        have hl1 : d1.length ≤ 10 := by rw [hd1]; exact dec_len hrb.1.2
        have hl2 : d2.length ≤ 10 := by rw [hd2]; exact dec_len hrb.2.2
        have hA : ∀ W, Calls Tryz.prog 74 #[.int .i64 g1] W fun e w' => e = .returned (.string (str d1)) ∧ Below W.heap.size W w' := fun W => by rw [hd1]; exact digits_int hrb.1.1 hrb.1.2 W
        have hB : ∀ W, Calls Tryz.prog 74 #[.int .i64 g2] W fun e w' => e = .returned (.string (str d2)) ∧ Below W.heap.size W w' := fun W => by rw [hd2]; exact digits_int hrb.2.1 hrb.2.2 W
        have HG : Hid ((g1, g2) = rs.getD j G0) := hg
        have HD1 : Hid (d1 = dec g1) := hd1
        have HD2 : Hid (d2 = dec g2) := hd2
        clear hg hd1 hd2 hrb hcx d0
        have hki : (j : Int) < (n : Int) := by omega
        have hz1 : ¬ 9223372036854775807 < o.length + 1 := by omega
        have hz2 : ¬ 9223372036854775807 < o.length + 1 + d1.length := by omega
        have hz3 : ¬ 9223372036854775807 < o.length + (d1.length + 1) + 1 := by omega
        have hz4 : ¬ 9223372036854775807 < o.length + (d1.length + 1 + 1) + d2.length := by omega
        by_cases hj0 : j = 0
        · -- the first ref
          have hjb : ((j : Int) == 0) = true := by simp [hj0]
          have HJ0 : Hid (j = 0) := hj0
          clear hj0
          go_wp2
          go_region_held3 (fun w' => w'.cell? ⟨P, 2, none⟩ = some (.slice (some ⟨b, off, none⟩) n c) ∧ w'.cell? ⟨b, off + j * 2, none⟩ = some (.int .i64 g1) ∧ w'.cell? ⟨b, off + j * 2 + 1, none⟩ = some (.int .i64 g2)) (go_keep)
            (first
              | (go_at_call 74; (first
                  | (have hA' := hA; (with_reducible refine (hA' _).mono ?_); clear hA hA'; rintro e w2 ⟨rfl, hb2⟩; have z2 := (hb2.cell (p := ⟨P, 2, none⟩) hPr).trans y2; have z3 := (hb2.cell (p := ⟨b, off + j * 2, none⟩) hbr).trans c0; have z4 := (hb2.cell (p := ⟨b, off + j * 2 + 1, none⟩) hbr).trans c1; have hs2 : wr.heap.size ≤ w2.heap.size := hb2.size)
                  | ((with_reducible refine (hB _).mono ?_); rintro e w3 ⟨rfl, hb3⟩; have x2 := (hb3.cell (p := ⟨P, 2, none⟩) (Nat.lt_of_lt_of_le hPr hs2)).trans z2; have x3 := (hb3.cell (p := ⟨b, off + j * 2, none⟩) (Nat.lt_of_lt_of_le hbr hs2)).trans z3; have x4 := (hb3.cell (p := ⟨b, off + j * 2 + 1, none⟩) (Nat.lt_of_lt_of_le hbr hs2)).trans z4))))
          have HB3 : Hid (Below w.heap.size w w3) := hbel.trans (((show Below wr.heap.size wr w2 from (Below.refl _ _).drew.trans hb2).trans (hb3.mono hs2)).mono hbel.size)
          go_wp2
          go_roundw
          case rel =>
            refine ⟨j + 1, by omega, by go_num, _, rfl, by simp; omega, ?_, HB3.out⟩
            show _ = _
            rw [take_next2 HN.out hlt HG.out, refsT_snoc, HO.out, HD1.out, HD2.out]
            have e2 : (rs.take j).length = j := by rw [List.length_take, HN.out]; omega
            have e3 := HJ0.out
            simp [e3, refT]
          case measure => simp [intOf]; omega

        · -- a ref behind it
          have hjb : ((j : Int) == 0) = false := by simp [hj0]
          have HJ0 : Hid (¬ j = 0) := hj0
          clear hj0
          go_wp2
          go_region_held3 (fun w' => w'.cell? ⟨P, 2, none⟩ = some (.slice (some ⟨b, off, none⟩) n c) ∧ w'.cell? ⟨b, off + j * 2, none⟩ = some (.int .i64 g1) ∧ w'.cell? ⟨b, off + j * 2 + 1, none⟩ = some (.int .i64 g2)) (go_keep)
            (first
              | (go_at_call 74; (first
                  | (have hA' := hA; (with_reducible refine (hA' _).mono ?_); clear hA hA'; rintro e w2 ⟨rfl, hb2⟩; have z2 := (hb2.cell (p := ⟨P, 2, none⟩) hPr).trans y2; have z3 := (hb2.cell (p := ⟨b, off + j * 2, none⟩) hbr).trans c0; have z4 := (hb2.cell (p := ⟨b, off + j * 2 + 1, none⟩) hbr).trans c1; have hs2 : wr.heap.size ≤ w2.heap.size := hb2.size)
                  | ((with_reducible refine (hB _).mono ?_); rintro e w3 ⟨rfl, hb3⟩; have x2 := (hb3.cell (p := ⟨P, 2, none⟩) (Nat.lt_of_lt_of_le hPr hs2)).trans z2; have x3 := (hb3.cell (p := ⟨b, off + j * 2, none⟩) (Nat.lt_of_lt_of_le hbr hs2)).trans z3; have x4 := (hb3.cell (p := ⟨b, off + j * 2 + 1, none⟩) (Nat.lt_of_lt_of_le hbr hs2)).trans z4))))
          have HB3 : Hid (Below w.heap.size w w3) := hbel.trans (((show Below wr.heap.size wr w2 from (Below.refl _ _).drew.trans hb2).trans (hb3.mono hs2)).mono hbel.size)
          go_wp2
          go_roundw
          case rel =>
            refine ⟨j + 1, by omega, by go_num, _, rfl, by simp; omega, ?_, HB3.out⟩
            show _ = _
            rw [take_next2 HN.out hlt HG.out, refsT_snoc, HO.out, HD1.out, HD2.out]
            have e2 : (rs.take j).length = j := by rw [List.length_take, HN.out]; omega
            have e3 := HJ0.out
            simp [e2, e3, refT]
          case measure => simp [intOf]; omega

      · have e1 : rs.take j = rs := List.take_of_length_le (by rw [HN.out]; omega)
        have HO2 : Hid (o = headT 0 f ++ refsT rs) := by show _ = _; rw [HO.out, e1]
        clear HO e1
        have hol2 : o.length ≤ 200 := by omega
        go_wp2
        go_loopw [3, 6] (fun v i wr2 => ∃ q : Nat, q ≤ m ∧ i = .int .i64 q ∧ ∃ o2 : List UInt8, v = .string (str o2) ∧ o2.length ≤ 200 + 150 * q ∧ Hid (o2 = headT 0 f ++ refsT rs ++ (os.take q).flatMap outT) ∧ Below w.heap.size w wr2) (fun _ i _ => m - (intOf i).toNat)
        case atStart => exact ⟨0, Nat.zero_le _, rfl, o, rfl, by omega, by show _ = _; simp [HO2.out], hbel⟩
        case round =>
          clear y2 y3 hbel HO2 hol hol2 hj hlt hPr
          obtain ⟨q, hq, rfl, o2, rfl, hol, HO, hbel⟩ := hrel
          have y3 := (hbel.cell (p := ⟨P, 3, none⟩) hPl).trans p3
          have hPr := Nat.lt_of_lt_of_le hPl hbel.size
          by_cases hlt : q < m
          · rcases HT.out.o.2 with h0 | ⟨b, off, e0, l0, d0⟩
            · omega
            subst e0
            obtain ⟨u, hu⟩ : ∃ u, u = os.getD q O0 := ⟨_, rfl⟩
            have hou := HOK.out.o q (by rw [HM.out]; exact hlt)
            obtain ⟨ka, kn, kc, q0, q1, q2, q3, hkn, hI⟩ := d0 q hlt
            rw [← hu] at hou q0 q2 q3 hI
            have c0 := (hbel.cell (p := ⟨b, off + q * 4, none⟩) l0).trans q0
            have hbr := Nat.lt_of_lt_of_le l0 hbel.size
            obtain ⟨uv, huv⟩ : ∃ z, z = u.v := ⟨_, rfl⟩
            obtain ⟨d1, hd1⟩ : ∃ z, z = dec uv := ⟨_, rfl⟩
            obtain ⟨r1, hr1⟩ : ∃ z, z = rtxR u.l u.x u.y := ⟨_, rfl⟩
            obtain ⟨r2, hr2⟩ : ∃ z, z = r1.map swp := ⟨_, rfl⟩
            have hv := hou.v
            rw [← huv] at c0 hv
            have hl1 : d1.length ≤ 10 := by rw [hd1]; exact dec_big hv.2
            have hlr : r1.length ≤ 100 := by rw [hr1]; exact rtx_len hou
            have hl2 : r2.length ≤ 100 := by rw [hr2]; simpa using hlr
            have hA : ∀ W, Calls Tryz.prog 74 #[.int .i64 uv] W fun e w' => e = .returned (.string (str d1)) ∧ Below W.heap.size W w' := fun W => by rw [hd1]; exact digits_big hv.1 hv.2 W
            have hB : ∀ W, Below w.heap.size w W → Calls Tryz.prog 76 #[.pointer (some ⟨b, off + q * 4 + 1, none⟩)] W fun e w' => e = .returned (.string (str r1)) ∧ Below W.heap.size W w' := fun W hW => by
              rw [hr1]
              have hkl := hI.1
              exact l2TextAt_any b (off + q * 4 + 1) kn kc ka u.l u.x u.y W (by rw [← hkl]; exact hou.n.1) (by rw [← hkl]; exact hou.n.2) hou.x hou.y (by rw [← hkl]; exact hou.k) (hI.below hW (Nat.le_refl _)) (Nat.lt_of_lt_of_le l0 hW.size)
                ((hW.cell (p := ⟨b, off + q * 4 + 1, none⟩) l0).trans q1) ((hW.cell (p := ⟨b, off + q * 4 + 2, none⟩) l0).trans q2) ((hW.cell (p := ⟨b, off + q * 4 + 3, none⟩) l0).trans q3)
            have hC : ∀ W, Calls Tryz.prog 75 #[.string (str r1), .int .u8 32, .int .u8 95] W fun e w' => e = .returned (.string (str r2)) ∧ Below W.heap.size W w' := fun W => by rw [hr2]; exact l3Swap_any r1 W (by omega)
            have HU : Hid (u = os.getD q O0 ∧ outT u = 32 :: (d1 ++ (61 :: r2))) := ⟨hu, by simp [outT, hd1, huv, hr2, hr1]⟩
            clear hu huv hd1 hr1 hr2 hou d0 q0 q1 q2 q3 hI
            have hki : (q : Int) < (m : Int) := by omega
            have hz1 : ¬ 9223372036854775807 < o2.length + 1 := by omega
            have hz2 : ¬ 9223372036854775807 < o2.length + 1 + d1.length := by omega
            have hz3 : ¬ 9223372036854775807 < o2.length + (d1.length + 1) + 1 := by omega
            have hz4 : ¬ 9223372036854775807 < o2.length + (d1.length + 1 + 1) + r2.length := by omega
            go_wp2
            go_region_held3 (fun w' => w'.cell? ⟨P, 3, none⟩ = some (.slice (some ⟨b, off, none⟩) m d) ∧ w'.cell? ⟨b, off + q * 4, none⟩ = some (.int .i64 uv)) (go_keep)
              (first
                | (go_at_call 74; refine (hA _).mono ?_; rintro e w2 ⟨rfl, hb2⟩; have z2 := (hb2.cell (p := ⟨P, 3, none⟩) hPr).trans y3; have z3 := (hb2.cell (p := ⟨b, off + q * 4, none⟩) hbr).trans c0; have hs2 : wr.heap.size ≤ w2.heap.size := hb2.size; have HB2 : Hid (Below w.heap.size w w2) := hbel.trans ((show Below wr.heap.size wr w2 from (Below.refl _ _).drew.trans hb2).mono hbel.size))
                | (go_at_call 76; refine (hB _ HB2.out).mono ?_; rintro e w3 ⟨rfl, hb3⟩; have x2 := (hb3.cell (p := ⟨P, 3, none⟩) (Nat.lt_of_lt_of_le hPr hs2)).trans z2; have x3 := (hb3.cell (p := ⟨b, off + q * 4, none⟩) (Nat.lt_of_lt_of_le hbr hs2)).trans z3; have hs3 := Nat.le_trans hs2 hb3.size; have HB3 : Hid (Below w.heap.size w w3) := HB2.out.trans (hb3.mono HB2.out.size))
                | (go_at_call 75; refine (hC _).mono ?_; rintro e w4 ⟨rfl, hb4⟩; have v2 := (hb4.cell (p := ⟨P, 3, none⟩) (Nat.lt_of_lt_of_le hPr hs3)).trans x2; have v3 := (hb4.cell (p := ⟨b, off + q * 4, none⟩) (Nat.lt_of_lt_of_le hbr hs3)).trans x3; have HB4 : Hid (Below w.heap.size w w4) := HB3.out.trans (hb4.mono HB3.out.size)))
            go_wp2
            go_roundw
            case rel =>
              refine ⟨q + 1, by omega, by go_num, _, rfl, by simp; omega, ?_, HB4.out⟩
              show _ = _
              rw [take_next2 HM.out hlt HU.out.1, List.flatMap_append, HO.out]
              simp [HU.out.2]
            case measure => simp [intOf]; omega
          · have e1 : os.take q = os := List.take_of_length_le (by rw [HM.out]; omega)
            obtain rfl : rt = o2 := by rw [HRT.out, HO.out, e1]; rfl
            clear e1 HO
            go_wp2
            go_ret
            exact ⟨rfl, hbel⟩
  · go_enter Tryz.func50, Tryz.ntmps50
    go_wp2_with (go_at_call 74; refine (hF _).mono ?_; rintro e w1 ⟨rfl, hb1⟩)
    have hb0 : Below w.heap.size w w1 := (below_box _).trans (hb1.mono (by simp))
    clear hb1 hF
    go_loopw [3, 4] (fun v i wr => ∃ j : Nat, j ≤ n ∧ i = .int .i64 j ∧ ∃ o : List UInt8, v = .string (str o) ∧ o.length ≤ 20 + 22 * j ∧ Hid (o = headT 1 f ++ refsT (rs.take j)) ∧ Below w.heap.size w wr) (fun _ i _ => n - (intOf i).toNat)
    case atStart => exact ⟨0, Nat.zero_le _, rfl, 106 :: 111 :: 105 :: 110 :: 32 :: df, rfl, by simp; omega, by show _ = _; simp [headT, kindT, refsT, HDF.out], hb0⟩
    case round =>
      obtain ⟨j, hj, rfl, o, rfl, hol, HO, hbel⟩ := hrel
      have y2 := (hbel.cell (p := ⟨P, 2, none⟩) hPl).trans p2
      have y3 := (hbel.cell (p := ⟨P, 3, none⟩) hPl).trans p3
      have hPr := Nat.lt_of_lt_of_le hPl hbel.size
      by_cases hlt : j < n
      · rcases HT.out.r.2 with h0 | ⟨b, off, e0, l0, d0⟩
        · omega
        subst e0
        obtain ⟨g, hg⟩ : ∃ g, g = rs.getD j G0 := ⟨_, rfl⟩
        have hcx := d0 j hlt
        have hrb := HOK.out.r j (by rw [HN.out]; exact hlt)
        rw [← hg] at hcx hrb
        obtain ⟨g1, g2⟩ := g
        have c0 := (hbel.cell (p := ⟨b, off + j * 2, none⟩) l0).trans hcx.1
        have c1 := (hbel.cell (p := ⟨b, off + j * 2 + 1, none⟩) l0).trans hcx.2
        have hbr := Nat.lt_of_lt_of_le l0 hbel.size
        obtain ⟨d1, hd1⟩ : ∃ o, o = dec g1 := ⟨_, rfl⟩
        obtain ⟨d2, hd2⟩ : ∃ o, o = dec g2 := ⟨_, rfl⟩
        have hl1 : d1.length ≤ 10 := by rw [hd1]; exact dec_len hrb.1.2
        have hl2 : d2.length ≤ 10 := by rw [hd2]; exact dec_len hrb.2.2
        have hA : ∀ W, Calls Tryz.prog 74 #[.int .i64 g1] W fun e w' => e = .returned (.string (str d1)) ∧ Below W.heap.size W w' := fun W => by rw [hd1]; exact digits_int hrb.1.1 hrb.1.2 W
        have hB : ∀ W, Calls Tryz.prog 74 #[.int .i64 g2] W fun e w' => e = .returned (.string (str d2)) ∧ Below W.heap.size W w' := fun W => by rw [hd2]; exact digits_int hrb.2.1 hrb.2.2 W
        have HG : Hid ((g1, g2) = rs.getD j G0) := hg
        have HD1 : Hid (d1 = dec g1) := hd1
        have HD2 : Hid (d2 = dec g2) := hd2
        clear hg hd1 hd2 hrb hcx d0
        have hki : (j : Int) < (n : Int) := by omega
        have hz1 : ¬ 9223372036854775807 < o.length + 1 := by omega
        have hz2 : ¬ 9223372036854775807 < o.length + 1 + d1.length := by omega
        have hz3 : ¬ 9223372036854775807 < o.length + (d1.length + 1) + 1 := by omega
        have hz4 : ¬ 9223372036854775807 < o.length + (d1.length + 1 + 1) + d2.length := by omega
        by_cases hj0 : j = 0
        · -- the first ref
          have hjb : ((j : Int) == 0) = true := by simp [hj0]
          have HJ0 : Hid (j = 0) := hj0
          clear hj0
          go_wp2
          go_region_held3 (fun w' => w'.cell? ⟨P, 2, none⟩ = some (.slice (some ⟨b, off, none⟩) n c) ∧ w'.cell? ⟨b, off + j * 2, none⟩ = some (.int .i64 g1) ∧ w'.cell? ⟨b, off + j * 2 + 1, none⟩ = some (.int .i64 g2)) (go_keep)
            (first
              | (go_at_call 74; (first
                  | (have hA' := hA; (with_reducible refine (hA' _).mono ?_); clear hA hA'; rintro e w2 ⟨rfl, hb2⟩; have z2 := (hb2.cell (p := ⟨P, 2, none⟩) hPr).trans y2; have z3 := (hb2.cell (p := ⟨b, off + j * 2, none⟩) hbr).trans c0; have z4 := (hb2.cell (p := ⟨b, off + j * 2 + 1, none⟩) hbr).trans c1; have hs2 : wr.heap.size ≤ w2.heap.size := hb2.size)
                  | ((with_reducible refine (hB _).mono ?_); rintro e w3 ⟨rfl, hb3⟩; have x2 := (hb3.cell (p := ⟨P, 2, none⟩) (Nat.lt_of_lt_of_le hPr hs2)).trans z2; have x3 := (hb3.cell (p := ⟨b, off + j * 2, none⟩) (Nat.lt_of_lt_of_le hbr hs2)).trans z3; have x4 := (hb3.cell (p := ⟨b, off + j * 2 + 1, none⟩) (Nat.lt_of_lt_of_le hbr hs2)).trans z4))))
          have HB3 : Hid (Below w.heap.size w w3) := hbel.trans (((show Below wr.heap.size wr w2 from (Below.refl _ _).drew.trans hb2).trans (hb3.mono hs2)).mono hbel.size)
          go_wp2
          go_roundw
          case rel =>
            refine ⟨j + 1, by omega, by go_num, _, rfl, by simp; omega, ?_, HB3.out⟩
            show _ = _
            rw [take_next2 HN.out hlt HG.out, refsT_snoc, HO.out, HD1.out, HD2.out]
            have e2 : (rs.take j).length = j := by rw [List.length_take, HN.out]; omega
            have e3 := HJ0.out
            simp [e3, refT]
          case measure => simp [intOf]; omega

        · -- a ref behind it
          have hjb : ((j : Int) == 0) = false := by simp [hj0]
          have HJ0 : Hid (¬ j = 0) := hj0
          clear hj0
          go_wp2
          go_region_held3 (fun w' => w'.cell? ⟨P, 2, none⟩ = some (.slice (some ⟨b, off, none⟩) n c) ∧ w'.cell? ⟨b, off + j * 2, none⟩ = some (.int .i64 g1) ∧ w'.cell? ⟨b, off + j * 2 + 1, none⟩ = some (.int .i64 g2)) (go_keep)
            (first
              | (go_at_call 74; (first
                  | (have hA' := hA; (with_reducible refine (hA' _).mono ?_); clear hA hA'; rintro e w2 ⟨rfl, hb2⟩; have z2 := (hb2.cell (p := ⟨P, 2, none⟩) hPr).trans y2; have z3 := (hb2.cell (p := ⟨b, off + j * 2, none⟩) hbr).trans c0; have z4 := (hb2.cell (p := ⟨b, off + j * 2 + 1, none⟩) hbr).trans c1; have hs2 : wr.heap.size ≤ w2.heap.size := hb2.size)
                  | ((with_reducible refine (hB _).mono ?_); rintro e w3 ⟨rfl, hb3⟩; have x2 := (hb3.cell (p := ⟨P, 2, none⟩) (Nat.lt_of_lt_of_le hPr hs2)).trans z2; have x3 := (hb3.cell (p := ⟨b, off + j * 2, none⟩) (Nat.lt_of_lt_of_le hbr hs2)).trans z3; have x4 := (hb3.cell (p := ⟨b, off + j * 2 + 1, none⟩) (Nat.lt_of_lt_of_le hbr hs2)).trans z4))))
          have HB3 : Hid (Below w.heap.size w w3) := hbel.trans (((show Below wr.heap.size wr w2 from (Below.refl _ _).drew.trans hb2).trans (hb3.mono hs2)).mono hbel.size)
          go_wp2
          go_roundw
          case rel =>
            refine ⟨j + 1, by omega, by go_num, _, rfl, by simp; omega, ?_, HB3.out⟩
            show _ = _
            rw [take_next2 HN.out hlt HG.out, refsT_snoc, HO.out, HD1.out, HD2.out]
            have e2 : (rs.take j).length = j := by rw [List.length_take, HN.out]; omega
            have e3 := HJ0.out
            simp [e2, e3, refT]
          case measure => simp [intOf]; omega

      · have e1 : rs.take j = rs := List.take_of_length_le (by rw [HN.out]; omega)
        have HO2 : Hid (o = headT 1 f ++ refsT rs) := by show _ = _; rw [HO.out, e1]
        clear HO e1
        have hol2 : o.length ≤ 200 := by omega
        go_wp2
        go_loopw [3, 6] (fun v i wr2 => ∃ q : Nat, q ≤ m ∧ i = .int .i64 q ∧ ∃ o2 : List UInt8, v = .string (str o2) ∧ o2.length ≤ 200 + 150 * q ∧ Hid (o2 = headT 1 f ++ refsT rs ++ (os.take q).flatMap outT) ∧ Below w.heap.size w wr2) (fun _ i _ => m - (intOf i).toNat)
        case atStart => exact ⟨0, Nat.zero_le _, rfl, o, rfl, by omega, by show _ = _; simp [HO2.out], hbel⟩
        case round =>
          clear y2 y3 hbel HO2 hol hol2 hj hlt hPr
          obtain ⟨q, hq, rfl, o2, rfl, hol, HO, hbel⟩ := hrel
          have y3 := (hbel.cell (p := ⟨P, 3, none⟩) hPl).trans p3
          have hPr := Nat.lt_of_lt_of_le hPl hbel.size
          by_cases hlt : q < m
          · rcases HT.out.o.2 with h0 | ⟨b, off, e0, l0, d0⟩
            · omega
            subst e0
            obtain ⟨u, hu⟩ : ∃ u, u = os.getD q O0 := ⟨_, rfl⟩
            have hou := HOK.out.o q (by rw [HM.out]; exact hlt)
            obtain ⟨ka, kn, kc, q0, q1, q2, q3, hkn, hI⟩ := d0 q hlt
            rw [← hu] at hou q0 q2 q3 hI
            have c0 := (hbel.cell (p := ⟨b, off + q * 4, none⟩) l0).trans q0
            have hbr := Nat.lt_of_lt_of_le l0 hbel.size
            obtain ⟨uv, huv⟩ : ∃ z, z = u.v := ⟨_, rfl⟩
            obtain ⟨d1, hd1⟩ : ∃ z, z = dec uv := ⟨_, rfl⟩
            obtain ⟨r1, hr1⟩ : ∃ z, z = rtxR u.l u.x u.y := ⟨_, rfl⟩
            obtain ⟨r2, hr2⟩ : ∃ z, z = r1.map swp := ⟨_, rfl⟩
            have hv := hou.v
            rw [← huv] at c0 hv
            have hl1 : d1.length ≤ 10 := by rw [hd1]; exact dec_big hv.2
            have hlr : r1.length ≤ 100 := by rw [hr1]; exact rtx_len hou
            have hl2 : r2.length ≤ 100 := by rw [hr2]; simpa using hlr
            have hA : ∀ W, Calls Tryz.prog 74 #[.int .i64 uv] W fun e w' => e = .returned (.string (str d1)) ∧ Below W.heap.size W w' := fun W => by rw [hd1]; exact digits_big hv.1 hv.2 W
            have hB : ∀ W, Below w.heap.size w W → Calls Tryz.prog 76 #[.pointer (some ⟨b, off + q * 4 + 1, none⟩)] W fun e w' => e = .returned (.string (str r1)) ∧ Below W.heap.size W w' := fun W hW => by
              rw [hr1]
              have hkl := hI.1
              exact l2TextAt_any b (off + q * 4 + 1) kn kc ka u.l u.x u.y W (by rw [← hkl]; exact hou.n.1) (by rw [← hkl]; exact hou.n.2) hou.x hou.y (by rw [← hkl]; exact hou.k) (hI.below hW (Nat.le_refl _)) (Nat.lt_of_lt_of_le l0 hW.size)
                ((hW.cell (p := ⟨b, off + q * 4 + 1, none⟩) l0).trans q1) ((hW.cell (p := ⟨b, off + q * 4 + 2, none⟩) l0).trans q2) ((hW.cell (p := ⟨b, off + q * 4 + 3, none⟩) l0).trans q3)
            have hC : ∀ W, Calls Tryz.prog 75 #[.string (str r1), .int .u8 32, .int .u8 95] W fun e w' => e = .returned (.string (str r2)) ∧ Below W.heap.size W w' := fun W => by rw [hr2]; exact l3Swap_any r1 W (by omega)
            have HU : Hid (u = os.getD q O0 ∧ outT u = 32 :: (d1 ++ (61 :: r2))) := ⟨hu, by simp [outT, hd1, huv, hr2, hr1]⟩
            clear hu huv hd1 hr1 hr2 hou d0 q0 q1 q2 q3 hI
            have hki : (q : Int) < (m : Int) := by omega
            have hz1 : ¬ 9223372036854775807 < o2.length + 1 := by omega
            have hz2 : ¬ 9223372036854775807 < o2.length + 1 + d1.length := by omega
            have hz3 : ¬ 9223372036854775807 < o2.length + (d1.length + 1) + 1 := by omega
            have hz4 : ¬ 9223372036854775807 < o2.length + (d1.length + 1 + 1) + r2.length := by omega
            go_wp2
            go_region_held3 (fun w' => w'.cell? ⟨P, 3, none⟩ = some (.slice (some ⟨b, off, none⟩) m d) ∧ w'.cell? ⟨b, off + q * 4, none⟩ = some (.int .i64 uv)) (go_keep)
              (first
                | (go_at_call 74; refine (hA _).mono ?_; rintro e w2 ⟨rfl, hb2⟩; have z2 := (hb2.cell (p := ⟨P, 3, none⟩) hPr).trans y3; have z3 := (hb2.cell (p := ⟨b, off + q * 4, none⟩) hbr).trans c0; have hs2 : wr.heap.size ≤ w2.heap.size := hb2.size; have HB2 : Hid (Below w.heap.size w w2) := hbel.trans ((show Below wr.heap.size wr w2 from (Below.refl _ _).drew.trans hb2).mono hbel.size))
                | (go_at_call 76; refine (hB _ HB2.out).mono ?_; rintro e w3 ⟨rfl, hb3⟩; have x2 := (hb3.cell (p := ⟨P, 3, none⟩) (Nat.lt_of_lt_of_le hPr hs2)).trans z2; have x3 := (hb3.cell (p := ⟨b, off + q * 4, none⟩) (Nat.lt_of_lt_of_le hbr hs2)).trans z3; have hs3 := Nat.le_trans hs2 hb3.size; have HB3 : Hid (Below w.heap.size w w3) := HB2.out.trans (hb3.mono HB2.out.size))
                | (go_at_call 75; refine (hC _).mono ?_; rintro e w4 ⟨rfl, hb4⟩; have v2 := (hb4.cell (p := ⟨P, 3, none⟩) (Nat.lt_of_lt_of_le hPr hs3)).trans x2; have v3 := (hb4.cell (p := ⟨b, off + q * 4, none⟩) (Nat.lt_of_lt_of_le hbr hs3)).trans x3; have HB4 : Hid (Below w.heap.size w w4) := HB3.out.trans (hb4.mono HB3.out.size)))
            go_wp2
            go_roundw
            case rel =>
              refine ⟨q + 1, by omega, by go_num, _, rfl, by simp; omega, ?_, HB4.out⟩
              show _ = _
              rw [take_next2 HM.out hlt HU.out.1, List.flatMap_append, HO.out]
              simp [HU.out.2]
            case measure => simp [intOf]; omega
          · have e1 : os.take q = os := List.take_of_length_le (by rw [HM.out]; omega)
            obtain rfl : rt = o2 := by rw [HRT.out, HO.out, e1]; rfl
            clear e1 HO
            go_wp2
            go_ret
            exact ⟨rfl, hbel⟩
  · go_enter Tryz.func50, Tryz.ntmps50
    go_wp2_with (go_at_call 74; refine (hF _).mono ?_; rintro e w1 ⟨rfl, hb1⟩)
    have hb0 : Below w.heap.size w w1 := (below_box _).trans (hb1.mono (by simp))
    clear hb1 hF
    go_loopw [3, 4] (fun v i wr => ∃ j : Nat, j ≤ n ∧ i = .int .i64 j ∧ ∃ o : List UInt8, v = .string (str o) ∧ o.length ≤ 20 + 22 * j ∧ Hid (o = headT 2 f ++ refsT (rs.take j)) ∧ Below w.heap.size w wr) (fun _ i _ => n - (intOf i).toNat)
    case atStart => exact ⟨0, Nat.zero_le _, rfl, 108 :: 101 :: 97 :: 118 :: 101 :: 32 :: df, rfl, by simp; omega, by show _ = _; simp [headT, kindT, refsT, HDF.out], hb0⟩
    case round =>
      obtain ⟨j, hj, rfl, o, rfl, hol, HO, hbel⟩ := hrel
      have y2 := (hbel.cell (p := ⟨P, 2, none⟩) hPl).trans p2
      have y3 := (hbel.cell (p := ⟨P, 3, none⟩) hPl).trans p3
      have hPr := Nat.lt_of_lt_of_le hPl hbel.size
      by_cases hlt : j < n
      · rcases HT.out.r.2 with h0 | ⟨b, off, e0, l0, d0⟩
        · omega
        subst e0
        obtain ⟨g, hg⟩ : ∃ g, g = rs.getD j G0 := ⟨_, rfl⟩
        have hcx := d0 j hlt
        have hrb := HOK.out.r j (by rw [HN.out]; exact hlt)
        rw [← hg] at hcx hrb
        obtain ⟨g1, g2⟩ := g
        have c0 := (hbel.cell (p := ⟨b, off + j * 2, none⟩) l0).trans hcx.1
        have c1 := (hbel.cell (p := ⟨b, off + j * 2 + 1, none⟩) l0).trans hcx.2
        have hbr := Nat.lt_of_lt_of_le l0 hbel.size
        obtain ⟨d1, hd1⟩ : ∃ o, o = dec g1 := ⟨_, rfl⟩
        obtain ⟨d2, hd2⟩ : ∃ o, o = dec g2 := ⟨_, rfl⟩
        have hl1 : d1.length ≤ 10 := by rw [hd1]; exact dec_len hrb.1.2
        have hl2 : d2.length ≤ 10 := by rw [hd2]; exact dec_len hrb.2.2
        have hA : ∀ W, Calls Tryz.prog 74 #[.int .i64 g1] W fun e w' => e = .returned (.string (str d1)) ∧ Below W.heap.size W w' := fun W => by rw [hd1]; exact digits_int hrb.1.1 hrb.1.2 W
        have hB : ∀ W, Calls Tryz.prog 74 #[.int .i64 g2] W fun e w' => e = .returned (.string (str d2)) ∧ Below W.heap.size W w' := fun W => by rw [hd2]; exact digits_int hrb.2.1 hrb.2.2 W
        have HG : Hid ((g1, g2) = rs.getD j G0) := hg
        have HD1 : Hid (d1 = dec g1) := hd1
        have HD2 : Hid (d2 = dec g2) := hd2
        clear hg hd1 hd2 hrb hcx d0
        have hki : (j : Int) < (n : Int) := by omega
        have hz1 : ¬ 9223372036854775807 < o.length + 1 := by omega
        have hz2 : ¬ 9223372036854775807 < o.length + 1 + d1.length := by omega
        have hz3 : ¬ 9223372036854775807 < o.length + (d1.length + 1) + 1 := by omega
        have hz4 : ¬ 9223372036854775807 < o.length + (d1.length + 1 + 1) + d2.length := by omega
        by_cases hj0 : j = 0
        · -- the first ref
          have hjb : ((j : Int) == 0) = true := by simp [hj0]
          have HJ0 : Hid (j = 0) := hj0
          clear hj0
          go_wp2
          go_region_held3 (fun w' => w'.cell? ⟨P, 2, none⟩ = some (.slice (some ⟨b, off, none⟩) n c) ∧ w'.cell? ⟨b, off + j * 2, none⟩ = some (.int .i64 g1) ∧ w'.cell? ⟨b, off + j * 2 + 1, none⟩ = some (.int .i64 g2)) (go_keep)
            (first
              | (go_at_call 74; (first
                  | (have hA' := hA; (with_reducible refine (hA' _).mono ?_); clear hA hA'; rintro e w2 ⟨rfl, hb2⟩; have z2 := (hb2.cell (p := ⟨P, 2, none⟩) hPr).trans y2; have z3 := (hb2.cell (p := ⟨b, off + j * 2, none⟩) hbr).trans c0; have z4 := (hb2.cell (p := ⟨b, off + j * 2 + 1, none⟩) hbr).trans c1; have hs2 : wr.heap.size ≤ w2.heap.size := hb2.size)
                  | ((with_reducible refine (hB _).mono ?_); rintro e w3 ⟨rfl, hb3⟩; have x2 := (hb3.cell (p := ⟨P, 2, none⟩) (Nat.lt_of_lt_of_le hPr hs2)).trans z2; have x3 := (hb3.cell (p := ⟨b, off + j * 2, none⟩) (Nat.lt_of_lt_of_le hbr hs2)).trans z3; have x4 := (hb3.cell (p := ⟨b, off + j * 2 + 1, none⟩) (Nat.lt_of_lt_of_le hbr hs2)).trans z4))))
          have HB3 : Hid (Below w.heap.size w w3) := hbel.trans (((show Below wr.heap.size wr w2 from (Below.refl _ _).drew.trans hb2).trans (hb3.mono hs2)).mono hbel.size)
          go_wp2
          go_roundw
          case rel =>
            refine ⟨j + 1, by omega, by go_num, _, rfl, by simp; omega, ?_, HB3.out⟩
            show _ = _
            rw [take_next2 HN.out hlt HG.out, refsT_snoc, HO.out, HD1.out, HD2.out]
            have e2 : (rs.take j).length = j := by rw [List.length_take, HN.out]; omega
            have e3 := HJ0.out
            simp [e3, refT]
          case measure => simp [intOf]; omega

        · -- a ref behind it
          have hjb : ((j : Int) == 0) = false := by simp [hj0]
          have HJ0 : Hid (¬ j = 0) := hj0
          clear hj0
          go_wp2
          go_region_held3 (fun w' => w'.cell? ⟨P, 2, none⟩ = some (.slice (some ⟨b, off, none⟩) n c) ∧ w'.cell? ⟨b, off + j * 2, none⟩ = some (.int .i64 g1) ∧ w'.cell? ⟨b, off + j * 2 + 1, none⟩ = some (.int .i64 g2)) (go_keep)
            (first
              | (go_at_call 74; (first
                  | (have hA' := hA; (with_reducible refine (hA' _).mono ?_); clear hA hA'; rintro e w2 ⟨rfl, hb2⟩; have z2 := (hb2.cell (p := ⟨P, 2, none⟩) hPr).trans y2; have z3 := (hb2.cell (p := ⟨b, off + j * 2, none⟩) hbr).trans c0; have z4 := (hb2.cell (p := ⟨b, off + j * 2 + 1, none⟩) hbr).trans c1; have hs2 : wr.heap.size ≤ w2.heap.size := hb2.size)
                  | ((with_reducible refine (hB _).mono ?_); rintro e w3 ⟨rfl, hb3⟩; have x2 := (hb3.cell (p := ⟨P, 2, none⟩) (Nat.lt_of_lt_of_le hPr hs2)).trans z2; have x3 := (hb3.cell (p := ⟨b, off + j * 2, none⟩) (Nat.lt_of_lt_of_le hbr hs2)).trans z3; have x4 := (hb3.cell (p := ⟨b, off + j * 2 + 1, none⟩) (Nat.lt_of_lt_of_le hbr hs2)).trans z4))))
          have HB3 : Hid (Below w.heap.size w w3) := hbel.trans (((show Below wr.heap.size wr w2 from (Below.refl _ _).drew.trans hb2).trans (hb3.mono hs2)).mono hbel.size)
          go_wp2
          go_roundw
          case rel =>
            refine ⟨j + 1, by omega, by go_num, _, rfl, by simp; omega, ?_, HB3.out⟩
            show _ = _
            rw [take_next2 HN.out hlt HG.out, refsT_snoc, HO.out, HD1.out, HD2.out]
            have e2 : (rs.take j).length = j := by rw [List.length_take, HN.out]; omega
            have e3 := HJ0.out
            simp [e2, e3, refT]
          case measure => simp [intOf]; omega

      · have e1 : rs.take j = rs := List.take_of_length_le (by rw [HN.out]; omega)
        have HO2 : Hid (o = headT 2 f ++ refsT rs) := by show _ = _; rw [HO.out, e1]
        clear HO e1
        have hol2 : o.length ≤ 200 := by omega
        go_wp2
        go_loopw [3, 6] (fun v i wr2 => ∃ q : Nat, q ≤ m ∧ i = .int .i64 q ∧ ∃ o2 : List UInt8, v = .string (str o2) ∧ o2.length ≤ 200 + 150 * q ∧ Hid (o2 = headT 2 f ++ refsT rs ++ (os.take q).flatMap outT) ∧ Below w.heap.size w wr2) (fun _ i _ => m - (intOf i).toNat)
        case atStart => exact ⟨0, Nat.zero_le _, rfl, o, rfl, by omega, by show _ = _; simp [HO2.out], hbel⟩
        case round =>
          clear y2 y3 hbel HO2 hol hol2 hj hlt hPr
          obtain ⟨q, hq, rfl, o2, rfl, hol, HO, hbel⟩ := hrel
          have y3 := (hbel.cell (p := ⟨P, 3, none⟩) hPl).trans p3
          have hPr := Nat.lt_of_lt_of_le hPl hbel.size
          by_cases hlt : q < m
          · rcases HT.out.o.2 with h0 | ⟨b, off, e0, l0, d0⟩
            · omega
            subst e0
            obtain ⟨u, hu⟩ : ∃ u, u = os.getD q O0 := ⟨_, rfl⟩
            have hou := HOK.out.o q (by rw [HM.out]; exact hlt)
            obtain ⟨ka, kn, kc, q0, q1, q2, q3, hkn, hI⟩ := d0 q hlt
            rw [← hu] at hou q0 q2 q3 hI
            have c0 := (hbel.cell (p := ⟨b, off + q * 4, none⟩) l0).trans q0
            have hbr := Nat.lt_of_lt_of_le l0 hbel.size
            obtain ⟨uv, huv⟩ : ∃ z, z = u.v := ⟨_, rfl⟩
            obtain ⟨d1, hd1⟩ : ∃ z, z = dec uv := ⟨_, rfl⟩
            obtain ⟨r1, hr1⟩ : ∃ z, z = rtxR u.l u.x u.y := ⟨_, rfl⟩
            obtain ⟨r2, hr2⟩ : ∃ z, z = r1.map swp := ⟨_, rfl⟩
            have hv := hou.v
            rw [← huv] at c0 hv
            have hl1 : d1.length ≤ 10 := by rw [hd1]; exact dec_big hv.2
            have hlr : r1.length ≤ 100 := by rw [hr1]; exact rtx_len hou
            have hl2 : r2.length ≤ 100 := by rw [hr2]; simpa using hlr
            have hA : ∀ W, Calls Tryz.prog 74 #[.int .i64 uv] W fun e w' => e = .returned (.string (str d1)) ∧ Below W.heap.size W w' := fun W => by rw [hd1]; exact digits_big hv.1 hv.2 W
            have hB : ∀ W, Below w.heap.size w W → Calls Tryz.prog 76 #[.pointer (some ⟨b, off + q * 4 + 1, none⟩)] W fun e w' => e = .returned (.string (str r1)) ∧ Below W.heap.size W w' := fun W hW => by
              rw [hr1]
              have hkl := hI.1
              exact l2TextAt_any b (off + q * 4 + 1) kn kc ka u.l u.x u.y W (by rw [← hkl]; exact hou.n.1) (by rw [← hkl]; exact hou.n.2) hou.x hou.y (by rw [← hkl]; exact hou.k) (hI.below hW (Nat.le_refl _)) (Nat.lt_of_lt_of_le l0 hW.size)
                ((hW.cell (p := ⟨b, off + q * 4 + 1, none⟩) l0).trans q1) ((hW.cell (p := ⟨b, off + q * 4 + 2, none⟩) l0).trans q2) ((hW.cell (p := ⟨b, off + q * 4 + 3, none⟩) l0).trans q3)
            have hC : ∀ W, Calls Tryz.prog 75 #[.string (str r1), .int .u8 32, .int .u8 95] W fun e w' => e = .returned (.string (str r2)) ∧ Below W.heap.size W w' := fun W => by rw [hr2]; exact l3Swap_any r1 W (by omega)
            have HU : Hid (u = os.getD q O0 ∧ outT u = 32 :: (d1 ++ (61 :: r2))) := ⟨hu, by simp [outT, hd1, huv, hr2, hr1]⟩
            clear hu huv hd1 hr1 hr2 hou d0 q0 q1 q2 q3 hI
            have hki : (q : Int) < (m : Int) := by omega
            have hz1 : ¬ 9223372036854775807 < o2.length + 1 := by omega
            have hz2 : ¬ 9223372036854775807 < o2.length + 1 + d1.length := by omega
            have hz3 : ¬ 9223372036854775807 < o2.length + (d1.length + 1) + 1 := by omega
            have hz4 : ¬ 9223372036854775807 < o2.length + (d1.length + 1 + 1) + r2.length := by omega
            go_wp2
            go_region_held3 (fun w' => w'.cell? ⟨P, 3, none⟩ = some (.slice (some ⟨b, off, none⟩) m d) ∧ w'.cell? ⟨b, off + q * 4, none⟩ = some (.int .i64 uv)) (go_keep)
              (first
                | (go_at_call 74; refine (hA _).mono ?_; rintro e w2 ⟨rfl, hb2⟩; have z2 := (hb2.cell (p := ⟨P, 3, none⟩) hPr).trans y3; have z3 := (hb2.cell (p := ⟨b, off + q * 4, none⟩) hbr).trans c0; have hs2 : wr.heap.size ≤ w2.heap.size := hb2.size; have HB2 : Hid (Below w.heap.size w w2) := hbel.trans ((show Below wr.heap.size wr w2 from (Below.refl _ _).drew.trans hb2).mono hbel.size))
                | (go_at_call 76; refine (hB _ HB2.out).mono ?_; rintro e w3 ⟨rfl, hb3⟩; have x2 := (hb3.cell (p := ⟨P, 3, none⟩) (Nat.lt_of_lt_of_le hPr hs2)).trans z2; have x3 := (hb3.cell (p := ⟨b, off + q * 4, none⟩) (Nat.lt_of_lt_of_le hbr hs2)).trans z3; have hs3 := Nat.le_trans hs2 hb3.size; have HB3 : Hid (Below w.heap.size w w3) := HB2.out.trans (hb3.mono HB2.out.size))
                | (go_at_call 75; refine (hC _).mono ?_; rintro e w4 ⟨rfl, hb4⟩; have v2 := (hb4.cell (p := ⟨P, 3, none⟩) (Nat.lt_of_lt_of_le hPr hs3)).trans x2; have v3 := (hb4.cell (p := ⟨b, off + q * 4, none⟩) (Nat.lt_of_lt_of_le hbr hs3)).trans x3; have HB4 : Hid (Below w.heap.size w w4) := HB3.out.trans (hb4.mono HB3.out.size)))
            go_wp2
            go_roundw
            case rel =>
              refine ⟨q + 1, by omega, by go_num, _, rfl, by simp; omega, ?_, HB4.out⟩
              show _ = _
              rw [take_next2 HM.out hlt HU.out.1, List.flatMap_append, HO.out]
              simp [HU.out.2]
            case measure => simp [intOf]; omega
          · have e1 : os.take q = os := List.take_of_length_le (by rw [HM.out]; omega)
            obtain rfl : rt = o2 := by rw [HRT.out, HO.out, e1]; rfl
            clear e1 HO
            go_wp2
            go_ret
            exact ⟨rfl, hbel⟩

end Go.Proofs.YtjgilpkkfpbefaaGreatDoor
