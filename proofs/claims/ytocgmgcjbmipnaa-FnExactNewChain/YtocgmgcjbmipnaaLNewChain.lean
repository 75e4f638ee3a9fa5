/- The law on NewChain answers true, whatever ledger comes in, and writes nothing that was there. -/
import Derived.Test.YtocgmgcjbmipnaaNw
import Derived.Test.YtocgmgcjbmipnaaLNoteText
namespace Go.Proofs.Ytocgmgcjbmipnaa
open Go.RowKit Go.Maps Go.WideMaps

/-- What the law holds in memory, from the program's answer on. -/
structure StN (w v : World) (ta : Option Addr) (n tc : Nat) (ga : Option Addr) (m gc s2 s3 s4 s5 : Nat) (r : LRes) (a0 d0 : Option Addr) (c0 e0 g2 k2 g3 k3 : Nat) (a1 d1 : Option Addr) (c1 e1 : Nat) (xs ys : List Value) : Prop where
  bx : Bx w v ta n tc ga m gc
  b3 : v.heap[s3]? = some (.cells #[.int .i64 r.c, .int .i64 r.i, .slice a0 r.s.length c0, .slice d0 r.g.length e0, .slice none 0 0, .slice none 0 0, .int .i64 0, .int .i64 0, .slice none 0 0, .slice none 0 0, .slice none 0 0] 40 (0, 0))
  b4 : v.heap[s4]? = some (.cells #[.slice (some ⟨g2, 0, none⟩) n k2, .slice (some ⟨g3, 0, none⟩) m k3] 29 (0, 0))
  b5 : v.heap[s5]? = some (.cells #[.int .i64 r.c, .int .i64 r.i, .slice a1 r.s.length c1, .slice d1 r.g.length e1, .slice none 0 0, .slice none 0 0, .int .i64 0, .int .i64 0, .slice none 0 0, .slice none 0 0, .slice none 0 0] 40 (0, 0))
  o0 : Own2 v s2 s3 a0 r.s.length c0 d0 r.g.length e0 (r.s.map Value.string) (gcells r.g)
  g0 : Own2 v (s4 + 1) s5 a1 r.s.length c1 d1 r.g.length e1 xs ys
  ord : w.heap.size < s2 ∧ s2 ≤ s3 ∧ s3 < s4 ∧ s4 < s5

section
variable {w v v' : World} {ta ga : Option Addr} {n tc m gc s2 s3 s4 s5 : Nat} {r : LRes} {a0 a1 d0 d1 : Option Addr} {c0 e0 g2 k2 g3 k3 c1 e1 : Nat} {xs ys xs' ys' : List Value}
theorem StN.step (h : StN w v ta n tc ga m gc s2 s3 s4 s5 r a0 d0 c0 e0 g2 k2 g3 k3 a1 d1 c1 e1 xs ys) (hb : Below v.heap.size v v') : StN w v' ta n tc ga m gc s2 s3 s4 s5 r a0 d0 c0 e0 g2 k2 g3 k3 a1 d1 c1 e1 xs ys :=
  ⟨h.bx.step hb, (keepb h.b3 hb).out, (keepb h.b4 hb).out, (keepb h.b5 hb).out, h.o0.below hb, h.g0.below hb, h.ord⟩
theorem StN.cells (h : StN w v ta n tc ga m gc s2 s3 s4 s5 r a0 d0 c0 e0 g2 k2 g3 k3 a1 d1 c1 e1 xs ys) :
    (v.cell? ⟨w.heap.size, 0, none⟩ = some (.slice ta n tc) ∧ v.cell? ⟨w.heap.size, 1, none⟩ = some (.slice ga m gc)) ∧ (v.cell? ⟨s3, 0, none⟩ = some (.int .i64 r.c) ∧ v.cell? ⟨s3, 1, none⟩ = some (.int .i64 r.i) ∧ v.cell? ⟨s3, 2, none⟩ = some (.slice a0 r.s.length c0) ∧ v.cell? ⟨s3, 3, none⟩ = some (.slice d0 r.g.length e0) ∧ v.cell? ⟨s3, 4, none⟩ = some (.slice none 0 0) ∧ v.cell? ⟨s3, 5, none⟩ = some (.slice none 0 0) ∧ v.cell? ⟨s3, 6, none⟩ = some (.int .i64 0) ∧ v.cell? ⟨s3, 7, none⟩ = some (.int .i64 0) ∧ v.cell? ⟨s3, 8, none⟩ = some (.slice none 0 0) ∧ v.cell? ⟨s3, 9, none⟩ = some (.slice none 0 0) ∧ v.cell? ⟨s3, 10, none⟩ = some (.slice none 0 0)) ∧
    (v.cell? ⟨s4, 0, none⟩ = some (.slice (some ⟨g2, 0, none⟩) n k2) ∧ v.cell? ⟨s4, 1, none⟩ = some (.slice (some ⟨g3, 0, none⟩) m k3)) ∧ v.cell? ⟨s5, 0, none⟩ = some (.int .i64 r.c) ∧ v.cell? ⟨s5, 1, none⟩ = some (.int .i64 r.i) ∧ v.cell? ⟨s5, 2, none⟩ = some (.slice a1 r.s.length c1) ∧ v.cell? ⟨s5, 3, none⟩ = some (.slice d1 r.g.length e1) ∧ v.cell? ⟨s5, 4, none⟩ = some (.slice none 0 0) ∧ v.cell? ⟨s5, 5, none⟩ = some (.slice none 0 0) ∧ v.cell? ⟨s5, 6, none⟩ = some (.int .i64 0) ∧ v.cell? ⟨s5, 7, none⟩ = some (.int .i64 0) ∧ v.cell? ⟨s5, 8, none⟩ = some (.slice none 0 0) ∧ v.cell? ⟨s5, 9, none⟩ = some (.slice none 0 0) ∧ v.cell? ⟨s5, 10, none⟩ = some (.slice none 0 0) :=
  ⟨⟨h.bx.c0, h.bx.c1⟩, cells11V h.b3, cells2 h.b4, cells11V h.b5⟩
theorem StN.lts (h : StN w v ta n tc ga m gc s2 s3 s4 s5 r a0 d0 c0 e0 g2 k2 g3 k3 a1 d1 c1 e1 xs ys) : w.heap.size < v.heap.size ∧ s4 < v.heap.size ∧ s5 < v.heap.size :=
  ⟨lt_of_block h.bx.box, lt_of_block h.b4, lt_of_block h.b5⟩
theorem StN.chgX (h : StN w v ta n tc ga m gc s2 s3 s4 s5 r a0 d0 c0 e0 g2 k2 g3 k3 a1 d1 c1 e1 xs ys) (hc : Chg v v' (s3 + 1) s4) : StN w v' ta n tc ga m gc s2 s3 s4 s5 r a0 d0 c0 e0 g2 k2 g3 k3 a1 d1 c1 e1 xs ys := by
  have := h.ord
  exact ⟨h.bx.chg hc (by omega), hc.keep h.b3 (.inl (by omega)), hc.keep h.b4 (.inr (by omega)), hc.keep h.b5 (.inr (by omega)), h.o0.chg hc (.inl (by omega)), h.g0.chg hc (.inr (by omega)), h.ord⟩
theorem StN.chgG (h : StN w v ta n tc ga m gc s2 s3 s4 s5 r a0 d0 c0 e0 g2 k2 g3 k3 a1 d1 c1 e1 xs ys) (hc : Chg v v' (s4 + 1) s5) (hg : Own2 v' (s4 + 1) s5 a1 r.s.length c1 d1 r.g.length e1 xs' ys') : StN w v' ta n tc ga m gc s2 s3 s4 s5 r a0 d0 c0 e0 g2 k2 g3 k3 a1 d1 c1 e1 xs' ys' := by
  have := h.ord
  exact ⟨h.bx.chg hc (by omega), hc.keep h.b3 (.inl (by omega)), hc.keep h.b4 (.inl (by omega)), hc.keep h.b5 (.inr (by omega)), h.o0.chg hc (.inl (by omega)), hg, h.ord⟩
end

theorem chn_st {w w5 v : World} {ta ga : Option Addr} {n tc m gc s2 s3 s4 hs : Nat} {r : LRes} {a0 a1 d0 d1 : Option Addr} {c0 e0 g2 k2 g3 k3 c1 e1 : Nat} {ss : List ByteArray} {gs : List (Int × Int)}
    (hB : Bx w v ta n tc ga m gc) (h3 : v.heap[s3]? = some (.cells #[.int .i64 r.c, .int .i64 r.i, .slice a0 r.s.length c0, .slice d0 r.g.length e0, .slice none 0 0, .slice none 0 0, .int .i64 0, .int .i64 0, .slice none 0 0, .slice none 0 0, .slice none 0 0] 40 (0, 0)))
    (h4 : v.heap[s4]? = some (.cells #[.slice (some ⟨g2, 0, none⟩) n k2, .slice (some ⟨g3, 0, none⟩) m k3] 29 (0, 0)))
    (hO : Own2 v s2 hs a0 r.s.length c0 d0 r.g.length e0 (r.s.map Value.string) (gcells r.g)) (hX : Own2 v (s3 + 1) s4 (some ⟨g2, 0, none⟩) n k2 (some ⟨g3, 0, none⟩) m k3 (ss.map Value.string) (gcells gs)) (hL : LedAt v (some ⟨g2, 0, none⟩) n (some ⟨g3, 0, none⟩) m ss gs)
    (hb : Below v.heap.size v w5) (ho : w5.ownsRow v.heap.size 9 1 (.slice a1 r.s.length c1) r.s.length (r.s.map Value.string)) (hog : w5.ownsRow v.heap.size 71 2 (.slice d1 r.g.length e1) r.g.length (gcells r.g)) (o1 : w.heap.size < s2) (o2 : s2 ≤ s3) (o3 : s3 + 1 ≤ s4) (hv : v.heap.size = s4 + 1) (hhs : hs = s3) :
    StN w (w5.alloc (.cells #[.int .i64 r.c, .int .i64 r.i, .slice a1 r.s.length c1, .slice d1 r.g.length e1, .slice none 0 0, .slice none 0 0, .int .i64 0, .int .i64 0, .slice none 0 0, .slice none 0 0, .slice none 0 0] 40)) ta n tc ga m gc s2 s3 s4 w5.heap.size r a0 d0 c0 e0 g2 k2 g3 k3 a1 d1 c1 e1 (r.s.map Value.string) (gcells r.g) ∧ LedAt (w5.alloc (.cells #[.int .i64 r.c, .int .i64 r.i, .slice a1 r.s.length c1, .slice d1 r.g.length e1, .slice none 0 0, .slice none 0 0, .int .i64 0, .int .i64 0, .slice none 0 0, .slice none 0 0, .slice none 0 0] 40)) (some ⟨g2, 0, none⟩) n (some ⟨g3, 0, none⟩) m ss gs ∧
      Own2 (w5.alloc (.cells #[.int .i64 r.c, .int .i64 r.i, .slice a1 r.s.length c1, .slice d1 r.g.length e1, .slice none 0 0, .slice none 0 0, .int .i64 0, .int .i64 0, .slice none 0 0, .slice none 0 0, .slice none 0 0] 40)) (s3 + 1) s4 (some ⟨g2, 0, none⟩) n k2 (some ⟨g3, 0, none⟩) m k3 (ss.map Value.string) (gcells gs) := by
  subst hhs
  have hbx : Below w5.heap.size w5 (w5.alloc (.cells #[.int .i64 r.c, .int .i64 r.i, .slice a1 r.s.length c1, .slice d1 r.g.length e1, .slice none 0 0, .slice none 0 0, .int .i64 0, .int .i64 0, .slice none 0 0, .slice none 0 0, .slice none 0 0] 40)) := below_box _
  have hsz := hb.size
  rw [hv] at ho hog hsz
  refine ⟨⟨(hB.step hb).step hbx, (keepb (keepb h3 hb).out hbx).out, (keepb (keepb h4 hb).out hbx).out, heap_alloc_new _ _, (hO.below hb).below hbx, (own2_of ho hog).below hbx, ⟨o1, o2, by omega, by omega⟩⟩, (hL.below hb (Nat.le_refl _)).below hbx (Nat.le_refl _), (hX.below hb).below hbx⟩

set_option maxHeartbeats 1000000 in
theorem lawNewChain (n m tc gc : Nat) (ta ga : Option Addr) (ss : List ByteArray) (gs : List (Int × Int)) (w : World) (hn : n ≤ maxLen) (hm : m ≤ maxLen) (hf : Fine ss gs) (h : LedAt w ta n ga m ss gs) :
    Calls Try.prog 3 #[.agg #[.slice ta n tc, .slice ga m gc]] w fun e w' => e = .returned (.bool true) ∧ Below w.heap.size w w' := by
  have B0 := Bx.start w ta n tc ga m gc
  have hsz := szL_any n m tc gc ta ga ss gs _ hn hm hf (B0.led h)
  have HN : Hid (ss.length = n) := h.s.1
  have HM : Hid (gs.length = m) := h.g.1
  go_enter Try.func3, Try.ntmps3
  go_wp2_with (first
    | (go_at_call 4; refine hsz.mono ?_; rintro e w1 ⟨r, rfl, hr, hb1⟩; have B1 := B0.step hb1; have b10 := B1.c0; have b11 := B1.c1))
  · go_ret
    exact ⟨rfl, B1.bel⟩
  · have hr0 : 0 ≤ r := by assumption
    obtain ⟨hn2, hm2⟩ := hr.le hr0
    have HF : Hid (Fine ss gs) := hf
    have HL : Hid (LedAt w ta n ga m ss gs) := h
    clear hf h hr hsz hb1 b10 b11 B0
    obtain ⟨r', hres⟩ : ∃ q, q = chnR ss gs := ⟨_, rfl⟩
    have hll := chn_len ss gs
    rw [← hres] at hll
    have HRES : Hid (r' = chnR ss gs) := hres
    clear hres
    have hl1 : r'.s.length ≤ 1048576 := by omega
    have hl2 : r'.g.length ≤ 1048576 := by omega
    have hlw : w.heap.size < w1.heap.size := lt_of_block B1.box
    refine (toL_any ta ga n m tc gc ss gs w1 hn2 hm2 (B1.led HL.out)).mono ?_
    rintro e w2 ⟨g0, k0, g1, k1, rfl, ho2, hb2⟩
    have B2 := B1.step hb2
    have hcp := ho2.caps
    have hlw2 : w.heap.size < w2.heap.size := Nat.lt_of_lt_of_le hlw hb2.size
    have hsp := sNewChain_any n m k0 k1 _ _ _ _ ss gs w2 hcp.1 hcp.2.1 hcp.2.2.1 hcp.2.2.2 HF.out (ho2.led HN.out HM.out)
    rw [← HRES.out] at hsp
    clear B1 hb2 ho2 hcp hlw
    go_wp2_with (first
      | (go_at_call 5; refine hsp.mono ?_; rintro e w3 ⟨hb3, a0, c0, d0, e0, rfl, ho3, ho3g⟩; have B3 := (B2.step hb3).step (below_box (.cells #[.int .i64 r'.c, .int .i64 r'.i, .slice a0 r'.s.length c0, .slice d0 r'.g.length e0, .slice none 0 0, .slice none 0 0, .int .i64 0, .int .i64 0, .slice none 0 0, .slice none 0 0, .slice none 0 0] 40)); have b30 := B3.c0; have b31 := B3.c1; have HW0 : Hid ((w3.alloc (.cells #[.int .i64 r'.c, .int .i64 r'.i, .slice a0 r'.s.length c0, .slice d0 r'.g.length e0, .slice none 0 0, .slice none 0 0, .int .i64 0, .int .i64 0, .slice none 0 0, .slice none 0 0, .slice none 0 0] 40)).heap[w3.heap.size]? = some (.cells #[.int .i64 r'.c, .int .i64 r'.i, .slice a0 r'.s.length c0, .slice d0 r'.g.length e0, .slice none 0 0, .slice none 0 0, .int .i64 0, .int .i64 0, .slice none 0 0, .slice none 0 0, .slice none 0 0] 40 (0, 0))) := heap_alloc_new _ _; have hs3 := hb3.size; have O3 := (own2_of ho3 ho3g).below (below_box (.cells #[.int .i64 r'.c, .int .i64 r'.i, .slice a0 r'.s.length c0, .slice d0 r'.g.length e0, .slice none 0 0, .slice none 0 0, .int .i64 0, .int .i64 0, .slice none 0 0, .slice none 0 0, .slice none 0 0] 40)); clear B2 hb3 hsp ho3 ho3g))
    refine (toL_any ta ga n m tc gc ss gs _ hn2 hm2 (B3.led HL.out)).mono ?_
    rintro e w4 ⟨g2, k2, g3, k3, rfl, ho4, hb4⟩
    have hs4 := hb4.size
    simp only [World.size_alloc] at hs4
    have X4 := ho4.own2
    rw [World.size_alloc] at X4
    have hbx4 : Below w4.heap.size w4 (w4.alloc (.cells #[.slice (some ⟨g2, 0, none⟩) n k2, .slice (some ⟨g3, 0, none⟩) m k3] 29)) := below_box _
    have B4 := (B3.step hb4).step hbx4
    have HW1 := keepb (keepb HW0.out hb4).out hbx4
    have O4 := (O3.below hb4).below hbx4
    have X5 := X4.below hbx4
    have L4 := (ho4.led HN.out HM.out).below hbx4 (Nat.le_refl _)
    have HX4 : Hid ((w4.alloc (.cells #[.slice (some ⟨g2, 0, none⟩) n k2, .slice (some ⟨g3, 0, none⟩) m k3] 29)).heap[w4.heap.size]? = some (.cells #[.slice (some ⟨g2, 0, none⟩) n k2, .slice (some ⟨g3, 0, none⟩) m k3] 29 (0, 0))) := heap_alloc_new _ _
    have him := iNewChain_any n m k2 k3 _ _ ss gs _ HF.out L4
    rw [← HRES.out] at him
    clear b30 b31 B3 hb4 ho4 HW0 O3 X4 hbx4
    go_wp2_with (first
      | (go_at_call 7; refine him.mono ?_; rintro e w5 ⟨hb5, a1, c1, d1, e1, rfl, ho5, ho5g⟩; obtain ⟨ST, L5, X6⟩ := chn_st B4 HW1.out HX4.out O4 X5 L4 hb5 ho5 ho5g hlw2 hs3 hs4 (World.size_alloc _ _) rfl; obtain ⟨⟨t0, t1⟩, ⟨tpA0, tpA1, tpA2, tpA3, tpA4, tpA5, tpA6, tpA7, tpA8, tpA9, tpA10⟩, ⟨t6, t7⟩, tqA0, tqA1, tqA2, tqA3, tqA4, tqA5, tqA6, tqA7, tqA8, tqA9, tqA10⟩ := ST.cells; have HST : Hid (StN w (w5.alloc (.cells #[.int .i64 r'.c, .int .i64 r'.i, .slice a1 r'.s.length c1, .slice d1 r'.g.length e1, .slice none 0 0, .slice none 0 0, .int .i64 0, .int .i64 0, .slice none 0 0, .slice none 0 0, .slice none 0 0] 40)) ta n tc ga m gc w2.heap.size w3.heap.size w4.heap.size w5.heap.size r' a0 d0 c0 e0 g2 k2 g3 k3 a1 d1 c1 e1 (r'.s.map Value.string) (gcells r'.g)) := ST; clear B4 L4 HX4 hb5 HW1 him O4 X5 ho5 ho5g ST)
      | (go_at_call 8; refine (eqChR_any _ _ _ _ r'.s.length r'.g.length c1 c0 e1 e0 r'.c r'.i r'.s r'.g _ hl1 hl2 HST.out.g0.led HST.out.o0.led).mono ?_; rintro e w6 ⟨rfl, hb6⟩; have ST6 := HST.out.step hb6; have X7 := X6.below hb6; have L6 := L5.below hb6 (Nat.le_refl _); clear t0 t1 t6 t7 tpA0 tpA1 tpA2 tpA3 tpA4 tpA5 tpA6 tpA7 tpA8 tpA9 tpA10 tqA0 tqA1 tqA2 tqA3 tqA4 tqA5 tqA6 tqA7 tqA8 tqA9 tqA10; obtain ⟨⟨t0, t1⟩, ⟨tpA0, tpA1, tpA2, tpA3, tpA4, tpA5, tpA6, tpA7, tpA8, tpA9, tpA10⟩, ⟨t6, t7⟩, tqA0, tqA1, tqA2, tqA3, tqA4, tqA5, tqA6, tqA7, tqA8, tqA9, tqA10⟩ := ST6.cells; have HST6 : Hid (StN w w6 ta n tc ga m gc w2.heap.size w3.heap.size w4.heap.size w5.heap.size r' a0 d0 c0 e0 g2 k2 g3 k3 a1 d1 c1 e1 (r'.s.map Value.string) (gcells r'.g)) := ST6; clear L5 X6 hb6 ST6))
    have hto : ∀ j, Calls Try.prog 6 #[.agg #[.slice ta n tc, .slice ga m gc]] (w6.drewN j) fun e w' => ∃ g0 k0 g1 k1, e = .returned (.agg #[.slice (some ⟨g0, 0, none⟩) n k0, .slice (some ⟨g1, 0, none⟩) m k1]) ∧ OwnL w' w6.heap.size n m ss gs g0 k0 g1 k1 ∧ Below w6.heap.size w6 w' := fun j =>
      (toL_any ta ga n m tc gc ss gs _ hn2 hm2 ((HST6.out.bx.draws j).led HL.out)).mono fun e w' ⟨a, b, c, d, h1, h2, h3⟩ => ⟨a, b, c, d, h1, h2, (Joins.below_draws _ w6 j).trans h3⟩
    obtain ⟨hl0, hl4, hl5⟩ := HST6.out.lts
    go_region_held3 (fun w' => w'.cell? ⟨w4.heap.size, 0, none⟩ = some (.slice (some ⟨g2, 0, none⟩) n k2) ∧ w'.cell? ⟨w4.heap.size, 1, none⟩ = some (.slice (some ⟨g3, 0, none⟩) m k3) ∧ w'.cell? ⟨w.heap.size, 0, none⟩ = some (.slice ta n tc) ∧ w'.cell? ⟨w.heap.size, 1, none⟩ = some (.slice ga m gc)) (go_keep)
      (first | (go_at_call 6; refine (hto 1).mono ?_; rintro e w7 ⟨g6, k6, g7, k7, rfl, ho7, hb7⟩; have z0 := (hb7.cell (p := ⟨w4.heap.size, 0, none⟩) hl4).trans t6; have z1 := (hb7.cell (p := ⟨w4.heap.size, 1, none⟩) hl4).trans t7; have z2 := (hb7.cell (p := ⟨w.heap.size, 0, none⟩) hl0).trans t0; have z3 := (hb7.cell (p := ⟨w.heap.size, 1, none⟩) hl0).trans t1) | (go_at_call 9; refine (eqL_any _ _ _ _ n m k2 k6 k3 k7 ss gs _ hn2 hm2 (L6.below hb7 (Nat.le_refl _)) (ho7.led HN.out HM.out)).mono ?_; rintro e w8 ⟨rfl, hb8⟩; have hs7 := hb7.size; have y0 := (hb8.cell (p := ⟨w4.heap.size, 0, none⟩) (Nat.lt_of_lt_of_le hl4 hs7)).trans z0; have y1 := (hb8.cell (p := ⟨w4.heap.size, 1, none⟩) (Nat.lt_of_lt_of_le hl4 hs7)).trans z1; have y2 := (hb8.cell (p := ⟨w.heap.size, 0, none⟩) (Nat.lt_of_lt_of_le hl0 hs7)).trans z2; have y3 := (hb8.cell (p := ⟨w.heap.size, 1, none⟩) (Nat.lt_of_lt_of_le hl0 hs7)).trans z3))
    have HST8 : Hid (StN w w8 ta n tc ga m gc w2.heap.size w3.heap.size w4.heap.size w5.heap.size r' a0 d0 c0 e0 g2 k2 g3 k3 a1 d1 c1 e1 (r'.s.map Value.string) (gcells r'.g)) := (HST6.out.step hb7).step hb8
    have X8 := (X7.below hb7).below hb8
    obtain ⟨⟨u0, u1⟩, ⟨upA0, upA1, upA2, upA3, upA4, upA5, upA6, upA7, upA8, upA9, upA10⟩, ⟨u6, u7⟩, uqA0, uqA1, uqA2, uqA3, uqA4, uqA5, uqA6, uqA7, uqA8, uqA9, uqA10⟩ := HST8.out.cells
    have hh8 : w4.heap.size ≤ w8.heap.size := Nat.le_of_lt HST8.out.lts.2.1
    clear t0 t1 t6 t7 tpA0 tpA1 tpA2 tpA3 tpA4 tpA5 tpA6 tpA7 tpA8 tpA9 tpA10 tqA0 tqA1 tqA2 tqA3 tqA4 tqA5 tqA6 tqA7 tqA8 tqA9 tqA10 z0 z1 z2 z3 y0 y1 y2 y3 hto hb7 hb8 ho7 L6 X7 hl0 hl4 hl5 HST6 HST hs7
    have hmk := markL_any _ _ n m k2 k3 (w3.heap.size + 1) w4.heap.size 1 _ _ w8 (by omega) (by omega) hh8 X8
    go_wp2_with (first
      | (go_at_call 10; refine hmk.mono ?_; rintro e w9 ⟨rfl, _, hc9⟩; have HST9 : Hid (StN w w9 ta n tc ga m gc w2.heap.size w3.heap.size w4.heap.size w5.heap.size r' a0 d0 c0 e0 g2 k2 g3 k3 a1 d1 c1 e1 (r'.s.map Value.string) (gcells r'.g)) := HST8.out.chgX hc9; obtain ⟨⟨t0, t1⟩, ⟨tpA0, tpA1, tpA2, tpA3, tpA4, tpA5, tpA6, tpA7, tpA8, tpA9, tpA10⟩, ⟨t6, t7⟩, tqA0, tqA1, tqA2, tqA3, tqA4, tqA5, tqA6, tqA7, tqA8, tqA9, tqA10⟩ := HST9.out.cells; clear u0 u1 u6 u7 upA0 upA1 upA2 upA3 upA4 upA5 upA6 upA7 upA8 upA9 upA10 uqA0 uqA1 uqA2 uqA3 uqA4 uqA5 uqA6 uqA7 uqA8 uqA9 uqA10 hc9)
      | (go_at_call 8; refine (eqChR_any _ _ _ _ r'.s.length r'.g.length c1 c0 e1 e0 r'.c r'.i r'.s r'.g _ hl1 hl2 HST9.out.g0.led HST9.out.o0.led).mono ?_; rintro e w10 ⟨rfl, hb10⟩; have HST10 : Hid (StN w w10 ta n tc ga m gc w2.heap.size w3.heap.size w4.heap.size w5.heap.size r' a0 d0 c0 e0 g2 k2 g3 k3 a1 d1 c1 e1 (r'.s.map Value.string) (gcells r'.g)) := HST9.out.step hb10; clear t0 t1 t6 t7 tpA0 tpA1 tpA2 tpA3 tpA4 tpA5 tpA6 tpA7 tpA8 tpA9 tpA10 tqA0 tqA1 tqA2 tqA3 tqA4 tqA5 tqA6 tqA7 tqA8 tqA9 tqA10; obtain ⟨⟨t0, t1⟩, ⟨tpA0, tpA1, tpA2, tpA3, tpA4, tpA5, tpA6, tpA7, tpA8, tpA9, tpA10⟩, ⟨t6, t7⟩, tqA0, tqA1, tqA2, tqA3, tqA4, tqA5, tqA6, tqA7, tqA8, tqA9, tqA10⟩ := HST10.out.cells; clear hb10)
      | (go_at_call 11; refine (markChR_any _ _ r'.s.length r'.g.length c1 e1 (w4.heap.size + 1) w5.heap.size 1 _ _ r'.c r'.i _ (by omega) (by omega) (Nat.le_of_lt HST10.out.lts.2.2) HST10.out.g0).mono ?_; rintro e w11 ⟨rfl, ho11, hc11⟩; have HST11 : Hid (StN w w11 ta n tc ga m gc w2.heap.size w3.heap.size w4.heap.size w5.heap.size r' a0 d0 c0 e0 g2 k2 g3 k3 a1 d1 c1 e1 (mkL 1 r'.s.length) (mkG (1 + r'.s.length) r'.g.length)) := HST10.out.chgG hc11 ho11; clear t0 t1 t6 t7 tpA0 tpA1 tpA2 tpA3 tpA4 tpA5 tpA6 tpA7 tpA8 tpA9 tpA10 tqA0 tqA1 tqA2 tqA3 tqA4 tqA5 tqA6 tqA7 tqA8 tqA9 tqA10; obtain ⟨⟨t0, t1⟩, ⟨tpA0, tpA1, tpA2, tpA3, tpA4, tpA5, tpA6, tpA7, tpA8, tpA9, tpA10⟩, ⟨t6, t7⟩, tqA0, tqA1, tqA2, tqA3, tqA4, tqA5, tqA6, tqA7, tqA8, tqA9, tqA10⟩ := HST11.out.cells; clear hc11 ho11)
      | (go_at_call 12; refine (heldChR_any _ _ r'.s.length r'.g.length c1 e1 (w4.heap.size + 1) w5.heap.size 1 r'.c r'.i _ (by omega) (by omega) HST11.out.g0).mono ?_; rintro e w12 ⟨rfl, hb12⟩; have HST12 : Hid (StN w w12 ta n tc ga m gc w2.heap.size w3.heap.size w4.heap.size w5.heap.size r' a0 d0 c0 e0 g2 k2 g3 k3 a1 d1 c1 e1 (mkL 1 r'.s.length) (mkG (1 + r'.s.length) r'.g.length)) := HST11.out.step hb12; clear t0 t1 t6 t7 tpA0 tpA1 tpA2 tpA3 tpA4 tpA5 tpA6 tpA7 tpA8 tpA9 tpA10 tqA0 tqA1 tqA2 tqA3 tqA4 tqA5 tqA6 tqA7 tqA8 tqA9 tqA10; obtain ⟨⟨t0, t1⟩, ⟨tpA0, tpA1, tpA2, tpA3, tpA4, tpA5, tpA6, tpA7, tpA8, tpA9, tpA10⟩, ⟨t6, t7⟩, tqA0, tqA1, tqA2, tqA3, tqA4, tqA5, tqA6, tqA7, tqA8, tqA9, tqA10⟩ := HST12.out.cells; clear hb12))
    refine (toL_any ta ga n m tc gc ss gs w12 hn2 hm2 (HST12.out.bx.led HL.out)).mono ?_
    rintro e w13 ⟨g8, k8, g9, k9, rfl, ho13, hb13⟩
    have him2 := iNewChain_any n m k8 k9 _ _ ss gs w13 HF.out (ho13.led HN.out HM.out)
    rw [← HRES.out] at him2
    have HST13 : Hid (StN w w13 ta n tc ga m gc w2.heap.size w3.heap.size w4.heap.size w5.heap.size r' a0 d0 c0 e0 g2 k2 g3 k3 a1 d1 c1 e1 (mkL 1 r'.s.length) (mkG (1 + r'.s.length) r'.g.length)) := HST12.out.step hb13
    clear t0 t1 t6 t7 tpA0 tpA1 tpA2 tpA3 tpA4 tpA5 tpA6 tpA7 tpA8 tpA9 tpA10 tqA0 tqA1 tqA2 tqA3 tqA4 tqA5 tqA6 tqA7 tqA8 tqA9 tqA10 ho13 hb13 HST8 HST9 HST10 HST11 HST12 hmk
    go_wp2_with (first
      | (go_at_call 7; refine him2.mono ?_; rintro e w14 ⟨hb14, a2, c2, d2, e2, rfl, ho14, ho14g⟩; have HST14 : Hid (StN w (w14.alloc (.cells #[.int .i64 r'.c, .int .i64 r'.i, .slice a2 r'.s.length c2, .slice d2 r'.g.length e2, .slice none 0 0, .slice none 0 0, .int .i64 0, .int .i64 0, .slice none 0 0, .slice none 0 0, .slice none 0 0] 40)) ta n tc ga m gc w2.heap.size w3.heap.size w4.heap.size w5.heap.size r' a0 d0 c0 e0 g2 k2 g3 k3 a1 d1 c1 e1 (mkL 1 r'.s.length) (mkG (1 + r'.s.length) r'.g.length)) := (HST13.out.step hb14).step (below_box _); obtain ⟨⟨t0, t1⟩, ⟨tpA0, tpA1, tpA2, tpA3, tpA4, tpA5, tpA6, tpA7, tpA8, tpA9, tpA10⟩, ⟨t6, t7⟩, tqA0, tqA1, tqA2, tqA3, tqA4, tqA5, tqA6, tqA7, tqA8, tqA9, tqA10⟩ := HST14.out.cells; have HI : Hid (LedAt (w14.alloc (.cells #[.int .i64 r'.c, .int .i64 r'.i, .slice a2 r'.s.length c2, .slice d2 r'.g.length e2, .slice none 0 0, .slice none 0 0, .int .i64 0, .int .i64 0, .slice none 0 0, .slice none 0 0, .slice none 0 0] 40)) a2 r'.s.length d2 r'.g.length r'.s r'.g) := ((own2_of ho14 ho14g).below (below_box _)).led; clear hb14 ho14 ho14g)
      | (go_at_call 8; refine (eqChR_any _ _ _ _ r'.s.length r'.g.length c2 c0 e2 e0 r'.c r'.i r'.s r'.g _ hl1 hl2 HI.out HST14.out.o0.led).mono ?_; rintro e w15 ⟨rfl, hb15⟩; have HST15 : Hid (StN w w15 ta n tc ga m gc w2.heap.size w3.heap.size w4.heap.size w5.heap.size r' a0 d0 c0 e0 g2 k2 g3 k3 a1 d1 c1 e1 (mkL 1 r'.s.length) (mkG (1 + r'.s.length) r'.g.length)) := HST14.out.step hb15; clear t0 t1 t6 t7 tpA0 tpA1 tpA2 tpA3 tpA4 tpA5 tpA6 tpA7 tpA8 tpA9 tpA10 tqA0 tqA1 tqA2 tqA3 tqA4 tqA5 tqA6 tqA7 tqA8 tqA9 tqA10; obtain ⟨⟨t0, t1⟩, ⟨tpA0, tpA1, tpA2, tpA3, tpA4, tpA5, tpA6, tpA7, tpA8, tpA9, tpA10⟩, ⟨t6, t7⟩, tqA0, tqA1, tqA2, tqA3, tqA4, tqA5, tqA6, tqA7, tqA8, tqA9, tqA10⟩ := HST15.out.cells; clear hb15)
      | (go_at_call 12; refine (heldChR_any _ _ r'.s.length r'.g.length c1 e1 (w4.heap.size + 1) w5.heap.size 1 r'.c r'.i _ (by omega) (by omega) HST15.out.g0).mono ?_; rintro e w16 ⟨rfl, hb16⟩))
    go_ret
    exact ⟨rfl, (HST15.out.step hb16).bx.bel⟩

end Go.Proofs.Ytocgmgcjbmipnaa
