/- The law on TxIn answers true, whatever ledger and number come in, and writes nothing that was there. -/
import Derived.Test.YtppfhepipadepaaGreatDoorBq
import Derived.Test.YtppfhepipadepaaGreatDoorJn1
namespace Go.Proofs.YtppfhepipadepaaGreatDoor
open Go.RowKit Go.Shelf Go.Maps Go.WideMaps

/-- What the law holds in memory, from the program's answer on: the ledger that came in; the specification's answer; the argument's copy; the program's answer, whose list reads zs. -/
structure StT (w v : World) (ta : Option Addr) (n tc : Nat) (ga : Option Addr) (m gc s2 s3 s4 s5 : Nat) (c tk tf : Int) (ia0 oa0 : Option Addr) (ic0 oc0 g2 k2 g3 k3 : Nat) (ia1 oa1 : Option Addr) (ic1 oc1 : Nat) (rs : List (Int × Int)) (os : List Ou) (zs : List Value) (fo : Nat → Ou) : Prop where
  bx : Bx w v ta n tc ga m gc
  b3 : v.heap[s3]? = some (.cells #[.int .i64 c, .int .i64 tk, .int .i64 tf, .slice ia0 rs.length ic0, .slice oa0 os.length oc0] 32 (0, 0))
  b4 : v.heap[s4]? = some (.cells #[.slice (some ⟨g2, 0, none⟩) n k2, .slice (some ⟨g3, 0, none⟩) m k3] 36 (0, 0))
  b5 : v.heap[s5]? = some (.cells #[.int .i64 c, .int .i64 tk, .int .i64 tf, .slice ia1 rs.length ic1, .slice oa1 os.length oc1] 32 (0, 0))
  o0 : TLie v s2 s3 ia0 rs.length ic0 oa0 os.length oc0 (gcells rs) (fun j => os.getD j O0)
  g0 : TLie v (s4 + 1) s5 ia1 rs.length ic1 oa1 os.length oc1 zs fo
  ord : w.heap.size < s2 ∧ s2 ≤ s3 ∧ s3 < s4 ∧ s4 < s5

section
variable {w v v' : World} {ta ga : Option Addr} {n tc m gc s2 s3 s4 s5 : Nat} {c tk tf : Int} {ia0 oa0 ia1 oa1 : Option Addr} {ic0 oc0 g2 k2 g3 k3 ic1 oc1 : Nat} {rs : List (Int × Int)} {os : List Ou} {zs : List Value} {fo : Nat → Ou}
theorem StT.step (h : StT w v ta n tc ga m gc s2 s3 s4 s5 c tk tf ia0 oa0 ic0 oc0 g2 k2 g3 k3 ia1 oa1 ic1 oc1 rs os zs fo) (hb : Below v.heap.size v v') : StT w v' ta n tc ga m gc s2 s3 s4 s5 c tk tf ia0 oa0 ic0 oc0 g2 k2 g3 k3 ia1 oa1 ic1 oc1 rs os zs fo :=
  ⟨h.bx.step hb, (keepb h.b3 hb).out, (keepb h.b4 hb).out, (keepb h.b5 hb).out, h.o0.below hb, h.g0.below hb, h.ord⟩
theorem StT.cells (h : StT w v ta n tc ga m gc s2 s3 s4 s5 c tk tf ia0 oa0 ic0 oc0 g2 k2 g3 k3 ia1 oa1 ic1 oc1 rs os zs fo) :
    v.cell? ⟨w.heap.size, 0, none⟩ = some (.slice ta n tc) ∧ v.cell? ⟨w.heap.size, 1, none⟩ = some (.slice ga m gc) ∧ v.cell? ⟨s3, 0, none⟩ = some (.int .i64 c) ∧ v.cell? ⟨s3, 1, none⟩ = some (.int .i64 tk) ∧ v.cell? ⟨s3, 2, none⟩ = some (.int .i64 tf) ∧ v.cell? ⟨s3, 3, none⟩ = some (.slice ia0 rs.length ic0) ∧ v.cell? ⟨s3, 4, none⟩ = some (.slice oa0 os.length oc0) ∧
    v.cell? ⟨s4, 0, none⟩ = some (.slice (some ⟨g2, 0, none⟩) n k2) ∧ v.cell? ⟨s4, 1, none⟩ = some (.slice (some ⟨g3, 0, none⟩) m k3) ∧ v.cell? ⟨s5, 0, none⟩ = some (.int .i64 c) ∧ v.cell? ⟨s5, 1, none⟩ = some (.int .i64 tk) ∧ v.cell? ⟨s5, 2, none⟩ = some (.int .i64 tf) ∧ v.cell? ⟨s5, 3, none⟩ = some (.slice ia1 rs.length ic1) ∧ v.cell? ⟨s5, 4, none⟩ = some (.slice oa1 os.length oc1) := by
  obtain ⟨x0, x1, x2, x3, x4⟩ := cells5V h.b3
  obtain ⟨y0, y1, y2, y3, y4⟩ := cells5V h.b5
  exact ⟨h.bx.c0, h.bx.c1, x0, x1, x2, x3, x4, (cells2 h.b4).1, (cells2 h.b4).2, y0, y1, y2, y3, y4⟩
theorem StT.lts (h : StT w v ta n tc ga m gc s2 s3 s4 s5 c tk tf ia0 oa0 ic0 oc0 g2 k2 g3 k3 ia1 oa1 ic1 oc1 rs os zs fo) : w.heap.size < v.heap.size ∧ s3 < v.heap.size ∧ s4 < v.heap.size ∧ s5 < v.heap.size :=
  ⟨lt_of_block h.bx.box, lt_of_block h.b3, lt_of_block h.b4, lt_of_block h.b5⟩
theorem Bx.chgT {lo hi : Nat} (h : Bx w v ta n tc ga m gc) (hc : Chg v v' lo hi) (hl : w.heap.size < lo) : Bx w v' ta n tc ga m gc :=
  ⟨hc.keep h.box (.inl hl), h.bel.trans (hc.below (by omega) h.bel.size)⟩
theorem StT.chgX (h : StT w v ta n tc ga m gc s2 s3 s4 s5 c tk tf ia0 oa0 ic0 oc0 g2 k2 g3 k3 ia1 oa1 ic1 oc1 rs os zs fo) (hc : Chg v v' (s3 + 1) s4) : StT w v' ta n tc ga m gc s2 s3 s4 s5 c tk tf ia0 oa0 ic0 oc0 g2 k2 g3 k3 ia1 oa1 ic1 oc1 rs os zs fo := by
  have := h.ord
  exact ⟨h.bx.chgT hc (by omega), hc.keep h.b3 (.inl (by omega)), hc.keep h.b4 (.inr (by omega)), hc.keep h.b5 (.inr (by omega)), h.o0.chg hc (.inl (by omega)), h.g0.chg hc (.inr (by omega)), h.ord⟩
theorem StT.chgG {ys : List Value} {go : Nat → Ou} (h : StT w v ta n tc ga m gc s2 s3 s4 s5 c tk tf ia0 oa0 ic0 oc0 g2 k2 g3 k3 ia1 oa1 ic1 oc1 rs os zs fo) (hc : Chg v v' (s4 + 1) s5) (hg : TLie v' (s4 + 1) s5 ia1 rs.length ic1 oa1 os.length oc1 ys go) : StT w v' ta n tc ga m gc s2 s3 s4 s5 c tk tf ia0 oa0 ic0 oc0 g2 k2 g3 k3 ia1 oa1 ic1 oc1 rs os ys go := by
  have := h.ord
  exact ⟨h.bx.chgT hc (by omega), hc.keep h.b3 (.inl (by omega)), hc.keep h.b4 (.inl (by omega)), hc.keep h.b5 (.inr (by omega)), h.o0.chg hc (.inl (by omega)), hg, h.ord⟩
end

theorem OwnL.ownT {w : World} {base n m : Nat} {ss : List ByteArray} {gs : List (Int × Int)} {g0 k0 g1 k1 : Nat} (h : OwnL w base n m ss gs g0 k0 g1 k1) : Own2 w base w.heap.size (some ⟨g0, 0, none⟩) n k0 (some ⟨g1, 0, none⟩) m k1 (ss.map Value.string) (gcells gs) :=
  ⟨h.1, h.2, fun b hb => (h.1.lt b hb).2, fun b hb => (h.2.lt b hb).2⟩

theorem tin_st {w w5 : World} {ta ga : Option Addr} {n tc m gc s2 s3 s4 : Nat} {c tk tf : Int} {ia0 oa0 ia1 oa1 : Option Addr} {ic0 oc0 g2 k2 g3 k3 ic1 oc1 : Nat} {rs : List (Int × Int)} {os : List Ou} {ss : List ByteArray} {gs : List (Int × Int)} {v : World} {hs : Nat}
    (hB : Bx w v ta n tc ga m gc) (h3 : v.heap[s3]? = some (.cells #[.int .i64 c, .int .i64 tk, .int .i64 tf, .slice ia0 rs.length ic0, .slice oa0 os.length oc0] 32 (0, 0)))
    (h4 : v.heap[s4]? = some (.cells #[.slice (some ⟨g2, 0, none⟩) n k2, .slice (some ⟨g3, 0, none⟩) m k3] 36 (0, 0)))
    (hO : TLie v s2 hs ia0 rs.length ic0 oa0 os.length oc0 (gcells rs) (fun j => os.getD j O0)) (hX : Own2 v (s3 + 1) s4 (some ⟨g2, 0, none⟩) n k2 (some ⟨g3, 0, none⟩) m k3 (ss.map Value.string) (gcells gs)) (hL : LedAt v (some ⟨g2, 0, none⟩) n (some ⟨g3, 0, none⟩) m ss gs)
    (hb : Below v.heap.size v w5) (ho : TNew w5 v.heap.size ia1 rs.length ic1 oa1 os.length oc1 rs os) (o1 : w.heap.size < s2) (o2 : s2 ≤ s3) (o3 : s3 + 1 ≤ s4) (hv : v.heap.size = s4 + 1) (hhs : hs = s3) :
    StT w (w5.alloc (.cells #[.int .i64 c, .int .i64 tk, .int .i64 tf, .slice ia1 rs.length ic1, .slice oa1 os.length oc1] 32)) ta n tc ga m gc s2 s3 s4 w5.heap.size c tk tf ia0 oa0 ic0 oc0 g2 k2 g3 k3 ia1 oa1 ic1 oc1 rs os (gcells rs) (fun j => os.getD j O0) ∧ LedAt (w5.alloc (.cells #[.int .i64 c, .int .i64 tk, .int .i64 tf, .slice ia1 rs.length ic1, .slice oa1 os.length oc1] 32)) (some ⟨g2, 0, none⟩) n (some ⟨g3, 0, none⟩) m ss gs ∧
      Own2 (w5.alloc (.cells #[.int .i64 c, .int .i64 tk, .int .i64 tf, .slice ia1 rs.length ic1, .slice oa1 os.length oc1] 32)) (s3 + 1) s4 (some ⟨g2, 0, none⟩) n k2 (some ⟨g3, 0, none⟩) m k3 (ss.map Value.string) (gcells gs) := by
  subst hhs
  have hbx : Below w5.heap.size w5 (w5.alloc (.cells #[.int .i64 c, .int .i64 tk, .int .i64 tf, .slice ia1 rs.length ic1, .slice oa1 os.length oc1] 32)) := below_box _
  have hsz := hb.size
  rw [hv] at ho hsz
  refine ⟨⟨(hB.step hb).step hbx, (keepb (keepb h3 hb).out hbx).out, (keepb (keepb h4 hb).out hbx).out, heap_alloc_new _ _, (hO.below hb).below hbx, (ho.lie).below hbx, ⟨o1, o2, by omega, by omega⟩⟩, (hL.below hb (Nat.le_refl _)).below hbx (Nat.le_refl _), (hX.below hb).below hbx⟩

set_option maxRecDepth 20000 in
set_option maxHeartbeats 4000000 in
theorem lawTxIn (n m tc gc : Nat) (ta ga : Option Addr) (ss : List ByteArray) (gs : List (Int × Int)) (x : Int) (w : World) (hE : Erv w) (hEv : Ev w) (hn : n ≤ maxLen) (hm : m ≤ maxLen) (hf : Fine ss gs) (h : LedAt w ta n ga m ss gs) :
    Calls Tryz.prog 3 #[.agg #[.slice ta n tc, .slice ga m gc], .int .i64 x] w fun e w' => e = .returned (.bool true) ∧ Below w.heap.size w w' := by
  have B0 := Bx.start w ta n tc ga m gc
  have hsz := szL_any n m tc gc ta ga ss gs _ hn hm hf (B0.led h)
  have HN : Hid (ss.length = n) := h.s.1
  have HM : Hid (gs.length = m) := h.g.1
  go_enter Tryz.func3, Tryz.ntmps3
  go_wp2_with (first
    | (go_at_call 4; refine hsz.mono ?_; rintro e w1 ⟨r, rfl, hr, hb1⟩; have B1 := B0.step hb1; have b10 := B1.c0; have b11 := B1.c1))
  · go_ret
    exact ⟨rfl, B1.bel⟩
  · have hr0 : 0 ≤ r := by assumption
    obtain ⟨hn2, hm2⟩ := hr.le hr0
    have HZ : Hid (∀ j, j < n → (ss.getD j E0).size ≤ 1048576) := by
      rcases hr with e | ⟨_, _, _, e⟩
      · omega
      · intro j hj; have := e j hj; omega
    have HER : Hid (Erv w) := hE
    have HEV : Hid (Ev w) := hEv
    have HF : Hid (Fine ss gs) := hf
    have HL : Hid (LedAt w ta n ga m ss gs) := h
    clear hf h hr hsz hb1 b10 b11 B0 hE hEv
    obtain ⟨⟨c, tk, tf, rs, os⟩, hres⟩ : ∃ q, q = tinR ss gs x := ⟨_, rfl⟩
    have h6 : (tinR ss gs x).2.rs.length ≤ 4 ∧ (tinR ss gs x).2.os.length ≤ 4 ∧ ∀ o ∈ (tinR ss gs x).2.os, o.l.length ≤ 3 := tin2R_len _ _
    rw [← hres] at h6
    obtain ⟨hn4, hm4, hk3⟩ : rs.length ≤ 4 ∧ os.length ≤ 4 ∧ ∀ o ∈ os, o.l.length ≤ 3 := h6
    have hnl : rs.length ≤ 1048576 := by omega
    have hml : os.length ≤ 1048576 := by omega
    have HK3 : Hid (∀ o ∈ os, o.l.length ≤ 3) := hk3
    have HKJ : Hid (∀ j, j < os.length → (os.getD j O0).l.length ≤ 1048576) := fun j hj => Nat.le_trans (hk3 _ (getD_mem (by omega))) (by omega)
    obtain ⟨Mm, hMm⟩ : ∃ K, K = kOu (1 + 2 * rs.length) (fun j => os.getD j O0) os.length := ⟨_, rfl⟩
    have HMm : Hid (Mm = kOu (1 + 2 * rs.length) (fun j => os.getD j O0) os.length) := hMm
    have d2 : decide ((Mm : Int) < 0) = false := decide_eq_false (by omega)
    have d4 : ¬ (Mm : Int) < 0 := by omega
    clear hMm hk3
    have hlw : w.heap.size < w1.heap.size := lt_of_block B1.box
    refine (toL_any ta ga n m tc gc ss gs w1 hn2 hm2 (B1.led HL.out)).mono ?_
    rintro e w2 ⟨g0, k0, g1, k1, rfl, ho2, hb2⟩
    have B2 := B1.step hb2
    have hcp := ho2.caps
    have hlw2 : w.heap.size < w2.heap.size := Nat.lt_of_lt_of_le hlw hb2.size
    have hsp := sTxIn_any n m k0 k1 _ _ ss gs x w2 hcp.1 hcp.2.1 hcp.2.2.1 hcp.2.2.2 HF.out HZ.out (ho2.led HN.out HM.out)
    rw [← hres] at hsp
    clear B1 hb2 ho2 hcp hlw
    go_wp2_with (first
      | (go_at_call 5; refine hsp.mono ?_; rintro e w3 ⟨hb3, ia0, ic0, oa0, oc0, rfl, ho3⟩; have B3 := (B2.step hb3).step (below_box (.cells #[.int .i64 c, .int .i64 tk, .int .i64 tf, .slice ia0 rs.length ic0, .slice oa0 os.length oc0] 32)); have b30 := B3.c0; have b31 := B3.c1; have HW0 : Hid ((w3.alloc (.cells #[.int .i64 c, .int .i64 tk, .int .i64 tf, .slice ia0 rs.length ic0, .slice oa0 os.length oc0] 32)).heap[w3.heap.size]? = some (.cells #[.int .i64 c, .int .i64 tk, .int .i64 tf, .slice ia0 rs.length ic0, .slice oa0 os.length oc0] 32 (0, 0))) := heap_alloc_new _ _; have hs3 := hb3.size; have O3 := (ho3.lie).below (below_box (.cells #[.int .i64 c, .int .i64 tk, .int .i64 tf, .slice ia0 rs.length ic0, .slice oa0 os.length oc0] 32)); clear B2 hb3 hsp ho3))
    refine (toL_any ta ga n m tc gc ss gs _ hn2 hm2 (B3.led HL.out)).mono ?_
    rintro e w4 ⟨g2, k2, g3, k3, rfl, ho4, hb4⟩
    have hs4 := hb4.size
    simp only [World.size_alloc] at hs4
    have X4 := ho4.ownT
    rw [World.size_alloc] at X4
    have hbx4 : Below w4.heap.size w4 (w4.alloc (.cells #[.slice (some ⟨g2, 0, none⟩) n k2, .slice (some ⟨g3, 0, none⟩) m k3] 36)) := below_box _
    have B4 := (B3.step hb4).step hbx4
    have HW1 := keepb (keepb HW0.out hb4).out hbx4
    have O4 := (O3.below hb4).below hbx4
    have X5 := X4.below hbx4
    have L4 := (ho4.led HN.out HM.out).below hbx4 (Nat.le_refl _)
    have HX4 : Hid ((w4.alloc (.cells #[.slice (some ⟨g2, 0, none⟩) n k2, .slice (some ⟨g3, 0, none⟩) m k3] 36)).heap[w4.heap.size]? = some (.cells #[.slice (some ⟨g2, 0, none⟩) n k2, .slice (some ⟨g3, 0, none⟩) m k3] 36 (0, 0))) := heap_alloc_new _ _
    have him := iTxIn_any n m k2 k3 _ _ ss gs x _ HF.out HZ.out (HER.out.below B4.bel) (HEV.out.below B4.bel (Nat.le_refl _)) L4
    rw [← hres] at him
    clear b30 b31 B3 hb4 ho4 HW0 O3 X4 hbx4
    go_wp2_with (first
      | (go_at_call 7; refine him.mono ?_; rintro e w5 ⟨hb5, ia1, ic1, oa1, oc1, rfl, ho5⟩; obtain ⟨ST, L5, X6⟩ := tin_st B4 HW1.out HX4.out O4 X5 L4 hb5 ho5 hlw2 hs3 hs4 (World.size_alloc _ _) rfl; obtain ⟨t0, t1, t2, tA, tB, tD, t3, t4, t5, t6, tE, tF, tG, t7⟩ := ST.cells; have HST : Hid (StT w (w5.alloc (.cells #[.int .i64 c, .int .i64 tk, .int .i64 tf, .slice ia1 rs.length ic1, .slice oa1 os.length oc1] 32)) ta n tc ga m gc w2.heap.size w3.heap.size w4.heap.size w5.heap.size c tk tf ia0 oa0 ic0 oc0 g2 k2 g3 k3 ia1 oa1 ic1 oc1 rs os (gcells rs) (fun j => os.getD j O0)) := ST; clear B4 L4 HX4 hb5 HW1 him O4 X5 ho5 ST)
      | (go_at_call 8; refine (eqTxR_any c tk tf _ _ _ _ rs.length os.length ic1 ic0 oc1 oc0 rs os _ hnl hml HKJ.out (HST.out.g0.at rfl rfl HK3.out) (HST.out.o0.at rfl rfl HK3.out)).mono ?_; rintro e w6 ⟨rfl, hb6⟩; have ST6 := HST.out.step hb6; have X7 := X6.below hb6; have L6 := L5.below hb6 (Nat.le_refl _); clear t0 t1 t2 tA tB tD t3 t4 t5 t6 tE tF tG t7; obtain ⟨t0, t1, t2, tA, tB, tD, t3, t4, t5, t6, tE, tF, tG, t7⟩ := ST6.cells; have HST6 : Hid (StT w w6 ta n tc ga m gc w2.heap.size w3.heap.size w4.heap.size w5.heap.size c tk tf ia0 oa0 ic0 oc0 g2 k2 g3 k3 ia1 oa1 ic1 oc1 rs os (gcells rs) (fun j => os.getD j O0)) := ST6; clear L5 X6 hb6 ST6))
    have hto : ∀ j, Calls Tryz.prog 6 #[.agg #[.slice ta n tc, .slice ga m gc]] (w6.drewN j) fun e w' => ∃ g0 k0 g1 k1, e = .returned (.agg #[.slice (some ⟨g0, 0, none⟩) n k0, .slice (some ⟨g1, 0, none⟩) m k1]) ∧ OwnL w' w6.heap.size n m ss gs g0 k0 g1 k1 ∧ Below w6.heap.size w6 w' := fun j =>
      (toL_any ta ga n m tc gc ss gs _ hn2 hm2 ((HST6.out.bx.draws j).led HL.out)).mono fun e w' ⟨a, b, c, d, h1, h2, h3⟩ => ⟨a, b, c, d, h1, h2, (Joins.below_draws _ w6 j).trans h3⟩
    obtain ⟨hl0, hl3, hl4, hl5⟩ := HST6.out.lts
    go_region_held3 (fun w' => w'.cell? ⟨w4.heap.size, 0, none⟩ = some (.slice (some ⟨g2, 0, none⟩) n k2) ∧ w'.cell? ⟨w4.heap.size, 1, none⟩ = some (.slice (some ⟨g3, 0, none⟩) m k3) ∧ w'.cell? ⟨w.heap.size, 0, none⟩ = some (.slice ta n tc) ∧ w'.cell? ⟨w.heap.size, 1, none⟩ = some (.slice ga m gc)) (go_keep)
      (first | (go_at_call 6; refine (hto 1).mono ?_; rintro e w7 ⟨g6, k6, g7, k7, rfl, ho7, hb7⟩; have z0 := (hb7.cell (p := ⟨w4.heap.size, 0, none⟩) hl4).trans t4; have z1 := (hb7.cell (p := ⟨w4.heap.size, 1, none⟩) hl4).trans t5; have z2 := (hb7.cell (p := ⟨w.heap.size, 0, none⟩) hl0).trans t0; have z3 := (hb7.cell (p := ⟨w.heap.size, 1, none⟩) hl0).trans t1) | (go_at_call 9; refine (eqL_any _ _ _ _ n m k2 k6 k3 k7 ss gs _ hn2 hm2 (L6.below hb7 (Nat.le_refl _)) (ho7.led HN.out HM.out)).mono ?_; rintro e w8 ⟨rfl, hb8⟩; have hs7 := hb7.size; have y0 := (hb8.cell (p := ⟨w4.heap.size, 0, none⟩) (Nat.lt_of_lt_of_le hl4 hs7)).trans z0; have y1 := (hb8.cell (p := ⟨w4.heap.size, 1, none⟩) (Nat.lt_of_lt_of_le hl4 hs7)).trans z1; have y2 := (hb8.cell (p := ⟨w.heap.size, 0, none⟩) (Nat.lt_of_lt_of_le hl0 hs7)).trans z2; have y3 := (hb8.cell (p := ⟨w.heap.size, 1, none⟩) (Nat.lt_of_lt_of_le hl0 hs7)).trans z3))
    have HST8 : Hid (StT w w8 ta n tc ga m gc w2.heap.size w3.heap.size w4.heap.size w5.heap.size c tk tf ia0 oa0 ic0 oc0 g2 k2 g3 k3 ia1 oa1 ic1 oc1 rs os (gcells rs) (fun j => os.getD j O0)) := (HST6.out.step hb7).step hb8
    have X8 := (X7.below hb7).below hb8
    obtain ⟨u0, u1, u2, uA, uB, uD, u3, u4, u5, u6, uE, uF, uG, u7⟩ := HST8.out.cells
    have hh8 : w4.heap.size ≤ w8.heap.size := Nat.le_of_lt HST8.out.lts.2.2.1
    clear t0 t1 t2 tA tB tD t3 t4 t5 t6 tE tF tG t7 z0 z1 z2 z3 y0 y1 y2 y3 hto hb7 hb8 ho7 L6 X7 hl0 hl3 hl4 hl5 HST6 HST hs7
    have hmk := markL_any _ _ n m k2 k3 (w3.heap.size + 1) w4.heap.size 1 _ _ w8 (by omega) (by omega) hh8 X8
    go_wp2_with (first
      | (go_at_call 10; refine hmk.mono ?_; rintro e w9 ⟨rfl, _, hc9⟩; have HST9 : Hid (StT w w9 ta n tc ga m gc w2.heap.size w3.heap.size w4.heap.size w5.heap.size c tk tf ia0 oa0 ic0 oc0 g2 k2 g3 k3 ia1 oa1 ic1 oc1 rs os (gcells rs) (fun j => os.getD j O0)) := HST8.out.chgX hc9; obtain ⟨t0, t1, t2, tA, tB, tD, t3, t4, t5, t6, tE, tF, tG, t7⟩ := HST9.out.cells; clear u0 u1 u2 uA uB uD u3 u4 u5 u6 uE uF uG u7 hc9)
      | (go_at_call 8; refine (eqTxR_any c tk tf _ _ _ _ rs.length os.length ic1 ic0 oc1 oc0 rs os _ hnl hml HKJ.out (HST9.out.g0.at rfl rfl HK3.out) (HST9.out.o0.at rfl rfl HK3.out)).mono ?_; rintro e w10 ⟨rfl, hb10⟩; have HST10 : Hid (StT w w10 ta n tc ga m gc w2.heap.size w3.heap.size w4.heap.size w5.heap.size c tk tf ia0 oa0 ic0 oc0 g2 k2 g3 k3 ia1 oa1 ic1 oc1 rs os (gcells rs) (fun j => os.getD j O0)) := HST9.out.step hb10; clear t0 t1 t2 tA tB tD t3 t4 t5 t6 tE tF tG t7; obtain ⟨t0, t1, t2, tA, tB, tD, t3, t4, t5, t6, tE, tF, tG, t7⟩ := HST10.out.cells; clear hb10)
      | (go_at_call 11; refine (markTxR_lie c tk tf ia1 oa1 rs.length os.length ic1 oc1 (w4.heap.size + 1) w5.heap.size Mm _ _ _ HMm.out hnl hml HKJ.out (Nat.le_of_lt HST10.out.lts.2.2.2) HST10.out.g0).mono ?_; rintro e w11 ⟨rfl, ho11, hc11⟩; have HST11 : Hid (StT w w11 ta n tc ga m gc w2.heap.size w3.heap.size w4.heap.size w5.heap.size c tk tf ia0 oa0 ic0 oc0 g2 k2 g3 k3 ia1 oa1 ic1 oc1 rs os (mkG 1 rs.length) (mkOuF (1 + 2 * rs.length) (fun j => os.getD j O0))) := HST10.out.chgG hc11 ho11; clear t0 t1 t2 tA tB tD t3 t4 t5 t6 tE tF tG t7; obtain ⟨t0, t1, t2, tA, tB, tD, t3, t4, t5, t6, tE, tF, tG, t7⟩ := HST11.out.cells; clear hc11 ho11)
      | (go_at_call 12; refine (heldTxR_lie c tk tf ia1 oa1 rs.length os.length ic1 oc1 (w4.heap.size + 1) w5.heap.size Mm _ _ HMm.out hnl hml HKJ.out HST11.out.g0).mono ?_; rintro e w12 ⟨rfl, hb12⟩; have HST12 : Hid (StT w w12 ta n tc ga m gc w2.heap.size w3.heap.size w4.heap.size w5.heap.size c tk tf ia0 oa0 ic0 oc0 g2 k2 g3 k3 ia1 oa1 ic1 oc1 rs os (mkG 1 rs.length) (mkOuF (1 + 2 * rs.length) (fun j => os.getD j O0))) := HST11.out.step hb12; clear t0 t1 t2 tA tB tD t3 t4 t5 t6 tE tF tG t7; obtain ⟨t0, t1, t2, tA, tB, tD, t3, t4, t5, t6, tE, tF, tG, t7⟩ := HST12.out.cells; clear hb12))
    refine (toL_any ta ga n m tc gc ss gs w12 hn2 hm2 (HST12.out.bx.led HL.out)).mono ?_
    rintro e w13 ⟨g8, k8, g9, k9, rfl, ho13, hb13⟩
    have HST13 : Hid (StT w w13 ta n tc ga m gc w2.heap.size w3.heap.size w4.heap.size w5.heap.size c tk tf ia0 oa0 ic0 oc0 g2 k2 g3 k3 ia1 oa1 ic1 oc1 rs os (mkG 1 rs.length) (mkOuF (1 + 2 * rs.length) (fun j => os.getD j O0))) := HST12.out.step hb13
    have him2 := iTxIn_any n m k8 k9 _ _ ss gs x w13 HF.out HZ.out (HER.out.below HST13.out.bx.bel) (HEV.out.below HST13.out.bx.bel (Nat.le_refl _)) (ho13.led HN.out HM.out)
    rw [← hres] at him2
    clear t0 t1 t2 tA tB tD t3 t4 t5 t6 tE tF tG t7 ho13 hb13 HST8 HST9 HST10 HST11 HST12 hmk
    go_wp2_with (first
      | (go_at_call 7; refine him2.mono ?_; rintro e w14 ⟨hb14, ia2, ic2, oa2, oc2, rfl, ho14⟩; have HST14 : Hid (StT w (w14.alloc (.cells #[.int .i64 c, .int .i64 tk, .int .i64 tf, .slice ia2 rs.length ic2, .slice oa2 os.length oc2] 32)) ta n tc ga m gc w2.heap.size w3.heap.size w4.heap.size w5.heap.size c tk tf ia0 oa0 ic0 oc0 g2 k2 g3 k3 ia1 oa1 ic1 oc1 rs os (mkG 1 rs.length) (mkOuF (1 + 2 * rs.length) (fun j => os.getD j O0))) := (HST13.out.step hb14).step (below_box _); obtain ⟨t0, t1, t2, tA, tB, tD, t3, t4, t5, t6, tE, tF, tG, t7⟩ := HST14.out.cells; have HI : Hid (TxAt (w14.alloc (.cells #[.int .i64 c, .int .i64 tk, .int .i64 tf, .slice ia2 rs.length ic2, .slice oa2 os.length oc2] 32)) ia2 rs.length oa2 os.length rs os) := (ho14.below (below_box _)).at rfl rfl HK3.out; clear hb14 ho14)
      | (go_at_call 8; refine (eqTxR_any c tk tf _ _ _ _ rs.length os.length ic2 ic0 oc2 oc0 rs os _ hnl hml HKJ.out HI.out (HST14.out.o0.at rfl rfl HK3.out)).mono ?_; rintro e w15 ⟨rfl, hb15⟩; have HST15 : Hid (StT w w15 ta n tc ga m gc w2.heap.size w3.heap.size w4.heap.size w5.heap.size c tk tf ia0 oa0 ic0 oc0 g2 k2 g3 k3 ia1 oa1 ic1 oc1 rs os (mkG 1 rs.length) (mkOuF (1 + 2 * rs.length) (fun j => os.getD j O0))) := HST14.out.step hb15; clear t0 t1 t2 tA tB tD t3 t4 t5 t6 tE tF tG t7; obtain ⟨t0, t1, t2, tA, tB, tD, t3, t4, t5, t6, tE, tF, tG, t7⟩ := HST15.out.cells; clear hb15)
      | (go_at_call 12; refine (heldTxR_lie c tk tf ia1 oa1 rs.length os.length ic1 oc1 (w4.heap.size + 1) w5.heap.size Mm _ _ HMm.out hnl hml HKJ.out HST15.out.g0).mono ?_; rintro e w16 ⟨rfl, hb16⟩))
    go_ret
    exact ⟨rfl, (HST15.out.step hb16).bx.bel⟩

end Go.Proofs.YtppfhepipadepaaGreatDoor
