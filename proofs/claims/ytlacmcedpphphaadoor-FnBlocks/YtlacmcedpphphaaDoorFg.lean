/- A block's text: the specification's. -/
import Derived.Test.YtlacmcedpphphaaDoorFf
import Derived.Test.YtlacmcedpphphaaDoorFc
namespace Go.Proofs.YtlacmcedpphphaaDoor
open Go.RowKit Go.Shelf Go.Maps Go.WideMaps

def txsT (l : List Int) : List UInt8 := if l = [] then [45] else plusT l
def blHd (p h m : Int) : List UInt8 := [98, 108, 111, 99, 107, 32] ++ dec p ++ (32 :: dec h) ++ (32 :: dec m)
def blT (p h m : Int) (l : List Int) : List UInt8 := blHd p h m ++ (32 :: txsT l)
theorem join_block (p h m : Int) (l : List Int) : Lib.join [[98, 108, 111, 99, 107], dec p, dec h, dec m, txsT l] [32] = blT p h m l := by
  simp [Lib.join, List.intercalate, List.intersperse, blT, blHd]
def btR (p h m : Int) (l : List Int) : Int × List UInt8 := if blR p h m l ≠ 0 then (blR p h m l, []) else (0, blT p h m l)
/-- What is known of a block without a fault. -/
structure BlOk (p h m : Int) (l : List Int) : Prop where
  p : 0 ≤ p ∧ p ≤ 60
  h : 1 ≤ h ∧ h ≤ 40
  m : 1 ≤ m ∧ m ≤ 999
  n : l.length ≤ 6
  t : ∀ k ∈ l, 1 ≤ k ∧ k ≤ 60
theorem txg_zero {l : List Int} : ∀ seen, txgR seen l = 0 → ∀ k ∈ l, 1 ≤ k ∧ k ≤ 60 := by
  induction l with
  | nil => intro _ _ k hk; cases hk
  | cons x t ih =>
    intro seen h k hk
    rw [txgR] at h
    by_cases h1 : inB x 1 60 = false
    · rw [if_pos h1] at h; cases h
    rw [if_neg h1] at h
    by_cases h2 : hasK seen x = true
    · rw [if_pos h2] at h; cases h
    rw [if_neg h2] at h
    rcases List.mem_cons.1 hk with rfl | hk
    · exact inB_true.1 (by simpa using h1)
    · exact ih _ h k hk
theorem bl_ok {p h m : Int} {l : List Int} (e : blR p h m l = 0) : BlOk p h m l := by
  unfold blR at e
  by_cases h1 : inB p 0 60 = false ∨ inB h 1 40 = false ∨ inB m 1 999 = false
  · rw [if_pos h1] at e; cases e
  rw [if_neg h1] at e
  by_cases h2 : (p == 0) ≠ (h == 1)
  · rw [if_pos h2] at e; cases e
  rw [if_neg h2] at e
  unfold txsR at e
  by_cases h3 : 6 < l.length
  · rw [if_pos h3] at e; cases e
  rw [if_neg h3] at e
  have a1 := inB_true.1 (show inB p 0 60 = true by cases e : inB p 0 60; exact absurd (.inl e) h1; rfl)
  have a2 := inB_true.1 (show inB h 1 40 = true by cases e : inB h 1 40; exact absurd (.inr (.inl e)) h1; rfl)
  have a3 := inB_true.1 (show inB m 1 999 = true by cases e : inB m 1 999; exact absurd (.inr (.inr e)) h1; rfl)
  exact ⟨a1, a2, a3, by omega, txg_zero _ e⟩
theorem blHd_len {p h m : Int} (hp : p ≤ 999) (hh : h ≤ 999) (hm : m ≤ 999) : (blHd p h m).length ≤ 38 := by
  have h1 := dec_len hp
  have h2 := dec_len hh
  have h3 := dec_len hm
  simp [blHd]; omega
theorem bl_len {p h m : Int} {l : List Int} (hb : BlOk p h m l) : (blT p h m l).length ≤ 200 := by
  have h1 := blHd_len (p := p) (h := h) (m := m) (by have := hb.p; omega) (by have := hb.h; omega) (by have := hb.m; omega)
  have h2 : (txsT l).length ≤ 100 := by
    unfold txsT
    by_cases e : l = []
    · rw [if_pos e]; simp
    · rw [if_neg e]; exact plus_len hb.n fun k hk => by have := hb.t k hk; omega
  simp [blT]; omega
theorem midT_snoc {l : List Int} {n j : Nat} {x : Int} (hn : l.length = n) (hlt : j < n) (hx : x = l.getD j 0) : (if j + 1 = 0 then [] else 32 :: plusT (l.take (j + 1))) = (if j = 0 then [] else 32 :: plusT (l.take j)) ++ ((if j = 0 then (32 : UInt8) else 43) :: dec x) := by
  rw [if_neg (by omega), take_next hn hlt hx]
  by_cases e : j = 0
  · subst e; simp [plusT, plusTail]
  · rw [if_neg e, if_neg e, plusT_snoc (by
      intro e2
      have := congrArg List.length e2
      rw [List.length_take, hn] at this
      simp at this
      omega)]
    simp

set_option maxRecDepth 20000 in
set_option maxHeartbeats 4000000 in
theorem l7Text_any (P n c : Nat) (a : Option Addr) (p h m : Int) (l : List Int) (w : World) (hok : BlOk p h m l) (hI : IAt w a n l) (hP : w.heap[P]? = some (.cells #[.int .i64 p, .int .i64 h, .int .i64 m, .slice a n c] 27 (0, 0))) :
    Calls Tryd.prog 18 #[.pointer (some ⟨P, 0, none⟩)] w fun e w' => e = .returned (.string (str (blT p h m l))) ∧ Below w.heap.size w w' := by
  obtain ⟨rt, hrt⟩ : ∃ r, r = blT p h m l := ⟨_, rfl⟩
  rw [← hrt]
  have HRT : Hid (rt = blT p h m l) := hrt
  clear hrt
  obtain ⟨p0, p1, p2, p3, _⟩ := cells4 hP
  have hPl := lt_of_block hP
  have HI : Hid (IAt w a n l) := hI
  have HN : Hid (l.length = n) := hI.1
  have HK : Hid (∀ k ∈ l, 1 ≤ k ∧ k ≤ 60) := hok.t
  have hn6 : n ≤ 6 := by rw [← hI.1]; exact hok.n
  have bp := hok.p
  have bh := hok.h
  have bm := hok.m
  obtain ⟨dp, hdp⟩ : ∃ o, o = dec p := ⟨_, rfl⟩
  obtain ⟨dh, hdh⟩ : ∃ o, o = dec h := ⟨_, rfl⟩
  obtain ⟨dm, hdm⟩ : ∃ o, o = dec m := ⟨_, rfl⟩
  have hlp : dp.length ≤ 10 := by rw [hdp]; exact dec_len (by omega)
  have hlh : dh.length ≤ 10 := by rw [hdh]; exact dec_len (by omega)
  have hlm : dm.length ≤ 10 := by rw [hdm]; exact dec_len (by omega)
  have hA : ∀ W, Calls Tryd.prog 34 #[.int .i64 p] W fun e w' => e = .returned (.string (str dp)) ∧ Below W.heap.size W w' := fun W => by rw [hdp]; exact digits_int (by omega) (by omega) W
  have hB : ∀ W, Calls Tryd.prog 34 #[.int .i64 h] W fun e w' => e = .returned (.string (str dh)) ∧ Below W.heap.size W w' := fun W => by rw [hdh]; exact digits_int (by omega) (by omega) W
  have hC : ∀ W, Calls Tryd.prog 34 #[.int .i64 m] W fun e w' => e = .returned (.string (str dm)) ∧ Below W.heap.size W w' := fun W => by rw [hdm]; exact digits_int (by omega) (by omega) W
  have hss : ∀ q : List UInt8, (str q).size = q.length := fun _ => rfl
  have hpre : ∀ q : List UInt8, (⟨#[98, 108, 111, 99, 107, 32]⟩ : ByteArray) ++ str q = str ([98, 108, 111, 99, 107, 32] ++ q) := fun q => str_append [98, 108, 111, 99, 107, 32] q
  have hbl : ∀ q : List UInt8, str q ++ ⟨#[32]⟩ = str (q ++ [32]) := fun q => str_append q _
  have happ : ∀ q r : List UInt8, str q ++ str r = str (q ++ r) := str_append
  have HD : Hid (dp = dec p ∧ dh = dec h ∧ dm = dec m) := ⟨hdp, hdh, hdm⟩
  clear hI hP hok hdp hdh hdm
  have hz1 : ¬ 9223372036854775807 < 6 + dp.length := by omega
  have hz2 : ¬ 9223372036854775807 < dp.length + 1 + 1 + 1 + 1 + 1 + 1 + 1 := by omega
  have hz4 : ¬ 9223372036854775807 < dp.length + 1 + 1 + 1 + 1 + 1 + 1 + 1 + dh.length := by omega
  have hz5 : ¬ 9223372036854775807 < dp.length + (dh.length + 1) + 1 + 1 + 1 + 1 + 1 + 1 + 1 := by omega
  have hz6 : ¬ 9223372036854775807 < dp.length + (dh.length + 1 + 1) + 1 + 1 + 1 + 1 + 1 + 1 + dm.length := by omega
  go_enter Tryd.func18, Tryd.ntmps18
  go_wp2
  go_region_held3 (fun w' => w'.cell? ⟨P, 0, none⟩ = some (.int .i64 p) ∧ w'.cell? ⟨P, 1, none⟩ = some (.int .i64 h) ∧ w'.cell? ⟨P, 2, none⟩ = some (.int .i64 m)) (go_keep)
    (first
      | (go_at_call 34; (first
          | (have hA' := hA; (with_reducible refine (hA' _).mono ?_); clear hA hA'; rintro e w1 ⟨rfl, hb1⟩; have z0 := (hb1.cell (p := ⟨P, 0, none⟩) hPl).trans p0; have z1 := (hb1.cell (p := ⟨P, 1, none⟩) hPl).trans p1; have z2 := (hb1.cell (p := ⟨P, 2, none⟩) hPl).trans p2; have hs1 : w.heap.size ≤ w1.heap.size := hb1.size)
          | (have hB' := hB; (with_reducible refine (hB' _).mono ?_); clear hB hB'; rintro e w2 ⟨rfl, hb2⟩; have y0 := (hb2.cell (p := ⟨P, 0, none⟩) (Nat.lt_of_lt_of_le hPl hs1)).trans z0; have y1 := (hb2.cell (p := ⟨P, 1, none⟩) (Nat.lt_of_lt_of_le hPl hs1)).trans z1; have y2 := (hb2.cell (p := ⟨P, 2, none⟩) (Nat.lt_of_lt_of_le hPl hs1)).trans z2; have hs2 : w.heap.size ≤ w2.heap.size := Nat.le_trans hs1 hb2.size)
          | ((with_reducible refine (hC _).mono ?_); rintro e w3 ⟨rfl, hb3⟩; have x0 := (hb3.cell (p := ⟨P, 0, none⟩) (Nat.lt_of_lt_of_le hPl hs2)).trans y0; have x1 := (hb3.cell (p := ⟨P, 1, none⟩) (Nat.lt_of_lt_of_le hPl hs2)).trans y1; have x2 := (hb3.cell (p := ⟨P, 2, none⟩) (Nat.lt_of_lt_of_le hPl hs2)).trans y2))))
  have HB3 : Hid (Below w.heap.size w w3) := ((show Below w.heap.size w w1 from (Below.refl _ _).drew.trans hb1).trans (hb2.mono hs1)).trans (hb3.mono hs2)
  obtain ⟨o0, ho0⟩ : ∃ o, o = 98 :: 108 :: 111 :: 99 :: 107 :: 32 :: (dp ++ 32 :: (dh ++ 32 :: dm)) := ⟨_, rfl⟩
  have hlo : o0.length ≤ 38 := by rw [ho0]; simp; omega
  have HO0 : Hid (o0 = blHd p h m) := by
    show _ = _
    rw [ho0, HD.out.1, HD.out.2.1, HD.out.2.2]
    simp [blHd]
  rw [← ho0]
  clear ho0 HD hz1 hz2 hz4 hz5 hz6 hpre hC z0 z1 z2 y0 y1 y2 x0 x1 x2 hb1 hb2 hb3 hs1 hs2 hlp hlh hlm p0 p1 p2
  have hds : ∀ q : List UInt8, str q ++ ⟨#[32, 45]⟩ = str (q ++ [32, 45]) := fun q => str_append q _
  have hpl : ∀ q : List UInt8, str q ++ ⟨#[43]⟩ = str (q ++ [43]) := fun q => str_append q _
  have c3 := (HB3.out.cell (p := ⟨P, 3, none⟩) hPl).trans p3
  by_cases hn0 : n = 0
  · subst hn0
    obtain rfl : l = [] := List.length_eq_zero_iff.1 HN.out
    obtain rfl : rt = o0 ++ [32, 45] := by rw [HRT.out, HO0.out]; simp [blT, txsT]
    have hz : ¬ 9223372036854775807 < o0.length + 2 := by omega
    go_wp2
    go_ret
    exact ⟨rfl, HB3.out⟩
  have hnz : ((n : Int) == 0) = false := by simp; omega
  have hnn : (n == 0) = false := by simp; omega
  go_wp2
  go_loopw [3, 4] (fun v i wr => ∃ j : Nat, j ≤ n ∧ i = .int .i64 j ∧ ∃ o : List UInt8, v = .string (str o) ∧ o.length ≤ 38 + 11 * j ∧ Hid (o = blHd p h m ++ (if j = 0 then [] else 32 :: plusT (l.take j))) ∧ Below w.heap.size w wr) (fun _ i _ => n - (intOf i).toNat)
  case atStart => exact ⟨0, Nat.zero_le _, rfl, o0, rfl, by omega, by show _ = _; rw [HO0.out]; simp, HB3.out⟩
  case round =>
    obtain ⟨j, hj, rfl, o, rfl, hol, HO, hbel⟩ := hrel
    have y3 := (hbel.cell (p := ⟨P, 3, none⟩) hPl).trans p3
    by_cases hlt : j < n
    · rcases HI.out.2 with h00 | ⟨b, off, ha, hb, hc⟩
      · omega
      subst ha
      obtain ⟨x, hx⟩ : ∃ x, x = l.getD j 0 := ⟨_, rfl⟩
      have cj := (hbel.cell (p := ⟨b, off + j, none⟩) hb).trans (hc j hlt)
      rw [← hx] at cj
      have HX : Hid (x = l.getD j 0) := hx
      have hkb : 1 ≤ x ∧ x ≤ 60 := HK.out x (by
        rw [hx, List.getD, List.getElem?_eq_getElem (by rw [HN.out]; exact hlt)]
        exact List.getElem_mem _)
      obtain ⟨dx, hdx⟩ : ∃ o, o = dec x := ⟨_, rfl⟩
      have hlx : dx.length ≤ 10 := by rw [hdx]; exact dec_len (by omega)
      have hB : ∀ W, Calls Tryd.prog 34 #[.int .i64 x] W fun e w' => e = .returned (.string (str dx)) ∧ Below W.heap.size W w' := fun W => by rw [hdx]; exact digits_int (by omega) (by omega) W
      have HDX : Hid (dx = dec x) := hdx
      clear hx hc hdx hkb
      have hki : (j : Int) < (n : Int) := by omega
      have hz1 : ¬ 9223372036854775807 < o.length + 1 := by omega
      have hz2 : ¬ 9223372036854775807 < o.length + 1 + dx.length := by omega
      by_cases hj0 : j = 0
      · subst hj0
        simp only [Nat.add_zero] at cj
        go_wp2_with (go_at_call 34; refine (hB _).mono ?_; rintro e w3 ⟨rfl, hb3⟩)
        go_roundw
        case rel =>
          refine ⟨0 + 1, by omega, by go_num, _, rfl, by simp; omega, ?_, hbel.trans (hb3.mono hbel.size)⟩
          show _ = _
          rw [midT_snoc HN.out hlt HX.out, HO.out, HDX.out]
          simp
        case measure => simp [intOf]; omega
      · have hjz : ((j : Int) == 0) = false := by simp; omega
        have hjn : (j == 0) = false := by simp; omega
        go_wp2_with (go_at_call 34; refine (hB _).mono ?_; rintro e w3 ⟨rfl, hb3⟩)
        go_roundw
        case rel =>
          refine ⟨j + 1, by omega, by go_num, _, rfl, by simp; omega, ?_, hbel.trans (hb3.mono hbel.size)⟩
          show _ = _
          rw [midT_snoc HN.out hlt HX.out, HO.out, HDX.out, if_neg hj0]
          simp [hj0]
        case measure => simp [intOf]; omega
    · obtain rfl : rt = o := by
        rw [HRT.out, HO.out, if_neg (by omega), take_all HN.out hlt]
        have hne : l ≠ [] := fun e => by have := HN.out; rw [e] at this; simp at this; omega
        simp [blT, txsT, hne]
      go_wp2
      go_ret
      exact ⟨rfl, hbel⟩

theorem sBlockText_any (n c : Nat) (a : Option Addr) (p h m : Int) (l : List Int) (w : World) (hn : n ≤ 1048576) (hc1 : n ≤ c) (hc2 : c ≤ maxLen) (hI : IAt w a n l) :
    Calls Tryd.prog 10 #[.agg #[.int .i64 p, .int .i64 h, .int .i64 m, .slice a n c]] w fun e w' => e = .returned (.agg #[.int .i64 (btR p h m l).1, .string (str (btR p h m l).2)]) ∧ Below w.heap.size w w' := by
  have hbx : Below w.heap.size w ((w.alloc (.cells #[.int .i64 p, .int .i64 h, .int .i64 m, .slice a n c] 27)).alloc (.cells #[.int .i64 0, .string ByteArray.empty] 32)) := below_box2 _ _
  have T0 := show Hid (((w.alloc (.cells #[.int .i64 p, .int .i64 h, .int .i64 m, .slice a n c] 27)).alloc (.cells #[.int .i64 0, .string ByteArray.empty] 32)).heap[w.heap.size]? = some (.cells #[.int .i64 p, .int .i64 h, .int .i64 m, .slice a n c] 27 (0, 0))) from block_at2
  have T1 := show Hid (((w.alloc (.cells #[.int .i64 p, .int .i64 h, .int .i64 m, .slice a n c] 27)).alloc (.cells #[.int .i64 0, .string ByteArray.empty] 32)).heap[w.heap.size + 1]? = some (.cells #[.int .i64 0, .string ByteArray.empty] 32 (0, 0))) from heap_alloc_at _ _ _ (by simp)
  have hF := l7Fault_any w.heap.size n c a p h m l _ hn hc1 hc2 (hI.below hbx (Nat.le_refl _)) T0.out
  have HBX : Hid (Below w.heap.size w ((w.alloc (.cells #[.int .i64 p, .int .i64 h, .int .i64 m, .slice a n c] 27)).alloc (.cells #[.int .i64 0, .string ByteArray.empty] 32))) := hbx
  have HI : Hid (IAt w a n l) := hI
  obtain ⟨cd, hcd⟩ : ∃ c, c = blR p h m l := ⟨_, rfl⟩
  rw [← hcd] at hF
  clear hbx hI
  by_cases hz : cd = 0
  · subst hz
    have hr : btR p h m l = (0, blT p h m l) := by unfold btR; rw [← hcd, if_neg (by simp)]
    rw [hr]
    have hok := bl_ok hcd.symm
    obtain ⟨s, hs⟩ : ∃ s, s = str (blT p h m l) := ⟨_, rfl⟩
    have HT : Hid (∀ v, Below w.heap.size w v → v.heap[w.heap.size]? = some (.cells #[.int .i64 p, .int .i64 h, .int .i64 m, .slice a n c] 27 (0, 0)) → Calls Tryd.prog 18 #[.pointer (some ⟨w.heap.size, 0, none⟩)] v fun e w' => e = .returned (.string s) ∧ Below v.heap.size v w') := fun v hv hP => by
      rw [hs]; exact l7Text_any w.heap.size n c a p h m l v hok (HI.out.below hv (Nat.le_refl _)) hP
    simp only
    rw [← hs]
    clear hr hcd hs hok
    go_enter Tryd.func10, Tryd.ntmps10
    go_wp2_with (first
      | (go_at_call 27; refine hF.mono ?_; clear hF; rintro e w2 ⟨rfl, hb2⟩; have HBW : Hid (Below w.heap.size w w2) := HBX.out.trans (hb2.mono (by simp; omega)); have HT2 := keepb T1.out hb2; have ht2 := HT.out w2 HBW.out (keepb T0.out hb2).out; clear hb2)
      | (go_at_call 18; (with_reducible refine ht2.mono ?_); clear ht2; rintro e w3 ⟨rfl, hb3⟩; have HBV : Hid (Below w.heap.size w w3) := HBW.out.trans (hb3.mono HBW.out.size); obtain ⟨q0, q1, q2, q3, HR⟩ := res_cells HT2.out hb3 (lt_of_block HT2.out); clear hb3))
    obtain ⟨s0, s1, s2⟩ := two_set HR.out (.int .i64 0) (.string s)
    exact bodyPost_ret (v := .agg #[.int .i64 0, .string s]) (by simp [results, Tryd.results10, go_sem, s0, s1]) rfl ⟨rfl, below_res HBV.out _ _⟩
  · have hr : btR p h m l = (cd, []) := by unfold btR; rw [← hcd, if_pos hz]
    rw [hr]
    clear hr hcd
    go_enter Tryd.func10, Tryd.ntmps10
    go_wp2_with (first
      | (go_at_call 27; refine hF.mono ?_; rintro e w2 ⟨rfl, hb2⟩; obtain ⟨q0, q1, q2, q3, HR⟩ := res_cells T1.out hb2 (by simp); have HBW : Hid (Below w.heap.size w w2) := HBX.out.trans (hb2.mono (by simp; omega)); clear hb2))
    obtain ⟨s0, s1, s2⟩ := two_set HR.out (.int .i64 cd) (.string ⟨#[]⟩)
    exact bodyPost_ret (v := .agg #[.int .i64 cd, .string ⟨#[]⟩]) (by simp [results, Tryd.results10, go_sem, s0, s1]) rfl ⟨rfl, below_res HBW.out _ _⟩

end Go.Proofs.YtlacmcedpphphaaDoor
