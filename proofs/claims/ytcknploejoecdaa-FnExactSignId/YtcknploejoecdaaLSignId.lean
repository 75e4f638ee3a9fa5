/- The law on SignId answers true, whatever ledger, key and number come in, and writes nothing that was there. -/
import Derived.Test.YtcknploejoecdaaIGt
import Derived.Test.YtcknploejoecdaaLNoteText
namespace Go.Proofs.Ytcknploejoecdaa
open Go.RowKit Go.Maps Go.WideMaps

theorem signR_len (ss : List ByteArray) (gs : List (Int × Int)) (a b : Int) : (signR ss gs a b).s.length ≤ 60 ∧ (signR ss gs a b).g.length ≤ 120 := by
  unfold signR
  by_cases h : flt ss gs ≠ 0
  · rw [if_pos h]; simp
  · rw [if_neg h]
    have hl := flt_le (ss := ss) (gs := gs) (by simpa using (Classical.not_not.1 h).symm)
    split
    · simp
    · split
      · exact hl
      · split
        · simp
        · simp; omega

set_option maxHeartbeats 1000000 in
theorem lawSignId (n m tc gc : Nat) (ta ga : Option Addr) (ss : List ByteArray) (gs : List (Int × Int)) (x y : Int) (w : World) (hx : (Lit.int .i64 x).wf = true) (hy : (Lit.int .i64 y).wf = true) (hn : n ≤ maxLen) (hm : m ≤ maxLen) (hf : Fine ss gs) (h : LedAt w ta n ga m ss gs) :
    Calls Try.prog 9 #[.agg #[.slice ta n tc, .slice ga m gc], .int .i64 x, .int .i64 y] w fun e w' => e = .returned (.bool true) ∧ Below w.heap.size w w' := by
  have B0 := Bx.start w ta n tc ga m gc
  have hsz := szL_any n m tc gc ta ga ss gs _ hn hm hf (B0.led h)
  have HN : Hid (ss.length = n) := h.s.1
  have HM : Hid (gs.length = m) := h.g.1
  have HXL : Hid ((Lit.int .i64 x).wf = true) := hx
  have HYL : Hid ((Lit.int .i64 y).wf = true) := hy
  clear hx hy
  go_enter Try.func9, Try.ntmps9
  go_wp2_with (first
    | (go_at_call 28; refine hsz.mono ?_; rintro e w1 ⟨r, rfl, hr, hb1⟩; have B1 := B0.step hb1; have b10 := B1.c0; have b11 := B1.c1))
  · go_ret
    exact ⟨rfl, B1.bel⟩
  · have hr0 : 0 ≤ r := by assumption
    obtain ⟨hn2, hm2⟩ := hr.le hr0
    have HF : Hid (Fine ss gs) := hf
    have HL : Hid (LedAt w ta n ga m ss gs) := h
    clear hf h hr hsz hb1 b10 b11 B0
    obtain ⟨r', hres⟩ : ∃ q, q = signR ss gs x y := ⟨_, rfl⟩
    have hll := signR_len ss gs x y
    rw [← hres] at hll
    have HRES : Hid (r' = signR ss gs x y) := hres
    clear hres
    have hl1 : r'.s.length ≤ 1048576 := by omega
    have hl2 : r'.g.length ≤ 1048576 := by omega
    have hlw : w.heap.size < w1.heap.size := lt_of_block B1.box
    refine (toL_any ta ga n m tc gc ss gs w1 hn2 hm2 (B1.led HL.out)).mono ?_
    rintro e w2 ⟨g0, k0, g1, k1, rfl, ho2, hb2⟩
    have B2 := B1.step hb2
    have hcp := ho2.caps
    have hlw2 : w.heap.size < w2.heap.size := Nat.lt_of_lt_of_le hlw hb2.size
    have hsp := sSignId_any n m k0 k1 _ _ _ _ ss gs x y w2 hcp.1 hcp.2.1 hcp.2.2.1 hcp.2.2.2 HF.out (ho2.led HN.out HM.out)
    rw [← HRES.out] at hsp
    clear B1 hb2 ho2 hcp hlw
    go_wp2_with (first
      | (go_at_call 24; refine hsp.mono ?_; rintro e w3 ⟨hb3, a0, c0, d0, e0, rfl, ho3, ho3g⟩; have B3 := (B2.step hb3).step (below_box (.cells #[.int .i64 r'.c, .int .i64 r'.i, .slice a0 r'.s.length c0, .slice d0 r'.g.length e0] 31)); have b30 := B3.c0; have b31 := B3.c1; have HW0 : Hid ((w3.alloc (.cells #[.int .i64 r'.c, .int .i64 r'.i, .slice a0 r'.s.length c0, .slice d0 r'.g.length e0] 31)).heap[w3.heap.size]? = some (.cells #[.int .i64 r'.c, .int .i64 r'.i, .slice a0 r'.s.length c0, .slice d0 r'.g.length e0] 31 (0, 0))) := heap_alloc_new _ _; have hs3 := hb3.size; have O3 := (own2_of ho3 ho3g).below (below_box (.cells #[.int .i64 r'.c, .int .i64 r'.i, .slice a0 r'.s.length c0, .slice d0 r'.g.length e0] 31)); clear B2 hb3 hsp ho3 ho3g))
    refine (toL_any ta ga n m tc gc ss gs _ hn2 hm2 (B3.led HL.out)).mono ?_
    rintro e w4 ⟨g2, k2, g3, k3, rfl, ho4, hb4⟩
    have hs4 := hb4.size
    simp only [World.size_alloc] at hs4
    have X4 := ho4.own2
    rw [World.size_alloc] at X4
    have hbx4 : Below w4.heap.size w4 (w4.alloc (.cells #[.slice (some ⟨g2, 0, none⟩) n k2, .slice (some ⟨g3, 0, none⟩) m k3] 27)) := below_box _
    have B4 := (B3.step hb4).step hbx4
    have HW1 := keepb (keepb HW0.out hb4).out hbx4
    have O4 := (O3.below hb4).below hbx4
    have X5 := X4.below hbx4
    have L4 := (ho4.led HN.out HM.out).below hbx4 (Nat.le_refl _)
    have HX4 : Hid ((w4.alloc (.cells #[.slice (some ⟨g2, 0, none⟩) n k2, .slice (some ⟨g3, 0, none⟩) m k3] 27)).heap[w4.heap.size]? = some (.cells #[.slice (some ⟨g2, 0, none⟩) n k2, .slice (some ⟨g3, 0, none⟩) m k3] 27 (0, 0))) := heap_alloc_new _ _
    have him := iSignId_any n m k2 k3 _ _ ss gs x y _ HXL.out HYL.out HF.out L4
    rw [← HRES.out] at him
    clear b30 b31 B3 hb4 ho4 HW0 O3 X4 hbx4
    go_wp2_with (first
      | (go_at_call 23; refine him.mono ?_; rintro e w5 ⟨hb5, a1, c1, d1, e1, rfl, ho5, ho5g⟩; obtain ⟨ST, L5, X6⟩ := note_st B4 HW1.out HX4.out O4 X5 L4 hb5 ho5 ho5g hlw2 hs3 hs4 (World.size_alloc _ _) rfl; obtain ⟨⟨t0, t1⟩, ⟨t2, t3, t4, t5⟩, ⟨t6, t7⟩, t8, t9, t10, t11⟩ := ST.cells; have HST : Hid (St4 w (w5.alloc (.cells #[.int .i64 r'.c, .int .i64 r'.i, .slice a1 r'.s.length c1, .slice d1 r'.g.length e1] 31)) ta n tc ga m gc w2.heap.size w3.heap.size w4.heap.size w5.heap.size r' a0 d0 c0 e0 g2 k2 g3 k3 a1 d1 c1 e1 (r'.s.map Value.string) (gcells r'.g)) := ST; clear B4 L4 HX4 hb5 HW1 him O4 X5 ho5 ho5g ST)
      | (go_at_call 34; refine (eqLR_any _ _ _ _ r'.s.length r'.g.length c1 c0 e1 e0 r'.c r'.i r'.s r'.g _ hl1 hl2 HST.out.g0.led HST.out.o0.led).mono ?_; rintro e w6 ⟨rfl, hb6⟩; have ST6 := HST.out.step hb6; have X7 := X6.below hb6; have L6 := L5.below hb6 (Nat.le_refl _); clear t0 t1 t2 t3 t4 t5 t6 t7 t8 t9 t10 t11; obtain ⟨⟨t0, t1⟩, ⟨t2, t3, t4, t5⟩, ⟨t6, t7⟩, t8, t9, t10, t11⟩ := ST6.cells; have HST6 : Hid (St4 w w6 ta n tc ga m gc w2.heap.size w3.heap.size w4.heap.size w5.heap.size r' a0 d0 c0 e0 g2 k2 g3 k3 a1 d1 c1 e1 (r'.s.map Value.string) (gcells r'.g)) := ST6; clear L5 X6 hb6 ST6))
    have hto : ∀ j, Calls Try.prog 30 #[.agg #[.slice ta n tc, .slice ga m gc]] (w6.drewN j) fun e w' => ∃ g0 k0 g1 k1, e = .returned (.agg #[.slice (some ⟨g0, 0, none⟩) n k0, .slice (some ⟨g1, 0, none⟩) m k1]) ∧ OwnL w' w6.heap.size n m ss gs g0 k0 g1 k1 ∧ Below w6.heap.size w6 w' := fun j =>
      (toL_any ta ga n m tc gc ss gs _ hn2 hm2 ((HST6.out.bx.draws j).led HL.out)).mono fun e w' ⟨a, b, c, d, h1, h2, h3⟩ => ⟨a, b, c, d, h1, h2, (Joins.below_draws _ w6 j).trans h3⟩
    obtain ⟨hl0, hl4, hl5⟩ := HST6.out.lts
    go_region_held3 (fun w' => w'.cell? ⟨w4.heap.size, 0, none⟩ = some (.slice (some ⟨g2, 0, none⟩) n k2) ∧ w'.cell? ⟨w4.heap.size, 1, none⟩ = some (.slice (some ⟨g3, 0, none⟩) m k3) ∧ w'.cell? ⟨w.heap.size, 0, none⟩ = some (.slice ta n tc) ∧ w'.cell? ⟨w.heap.size, 1, none⟩ = some (.slice ga m gc)) (go_keep)
      (first | (go_at_call 30; refine (hto 1).mono ?_; rintro e w7 ⟨g6, k6, g7, k7, rfl, ho7, hb7⟩; have z0 := (hb7.cell (p := ⟨w4.heap.size, 0, none⟩) hl4).trans t6; have z1 := (hb7.cell (p := ⟨w4.heap.size, 1, none⟩) hl4).trans t7; have z2 := (hb7.cell (p := ⟨w.heap.size, 0, none⟩) hl0).trans t0; have z3 := (hb7.cell (p := ⟨w.heap.size, 1, none⟩) hl0).trans t1) | (go_at_call 31; refine (eqL_any _ _ _ _ n m k2 k6 k3 k7 ss gs _ hn2 hm2 (L6.below hb7 (Nat.le_refl _)) (ho7.led HN.out HM.out)).mono ?_; rintro e w8 ⟨rfl, hb8⟩; have hs7 := hb7.size; have y0 := (hb8.cell (p := ⟨w4.heap.size, 0, none⟩) (Nat.lt_of_lt_of_le hl4 hs7)).trans z0; have y1 := (hb8.cell (p := ⟨w4.heap.size, 1, none⟩) (Nat.lt_of_lt_of_le hl4 hs7)).trans z1; have y2 := (hb8.cell (p := ⟨w.heap.size, 0, none⟩) (Nat.lt_of_lt_of_le hl0 hs7)).trans z2; have y3 := (hb8.cell (p := ⟨w.heap.size, 1, none⟩) (Nat.lt_of_lt_of_le hl0 hs7)).trans z3))
    have HST8 : Hid (St4 w w8 ta n tc ga m gc w2.heap.size w3.heap.size w4.heap.size w5.heap.size r' a0 d0 c0 e0 g2 k2 g3 k3 a1 d1 c1 e1 (r'.s.map Value.string) (gcells r'.g)) := (HST6.out.step hb7).step hb8
    have X8 := (X7.below hb7).below hb8
    obtain ⟨⟨u0, u1⟩, ⟨u2, u3, u4, u5⟩, ⟨u6, u7⟩, u8, u9, u10, u11⟩ := HST8.out.cells
    have hh8 : w4.heap.size ≤ w8.heap.size := Nat.le_of_lt HST8.out.lts.2.1
    clear t0 t1 t2 t3 t4 t5 t6 t7 t8 t9 t10 t11 z0 z1 z2 z3 y0 y1 y2 y3 hto hb7 hb8 ho7 L6 X7 hl0 hl4 hl5 HST6 HST hs7
    have hmk := markL_any _ _ n m k2 k3 (w3.heap.size + 1) w4.heap.size 1 _ _ w8 (by omega) (by omega) hh8 X8
    go_wp2_with (first
      | (go_at_call 35; refine hmk.mono ?_; rintro e w9 ⟨rfl, _, hc9⟩; have HST9 : Hid (St4 w w9 ta n tc ga m gc w2.heap.size w3.heap.size w4.heap.size w5.heap.size r' a0 d0 c0 e0 g2 k2 g3 k3 a1 d1 c1 e1 (r'.s.map Value.string) (gcells r'.g)) := HST8.out.chgX hc9; obtain ⟨⟨t0, t1⟩, ⟨t2, t3, t4, t5⟩, ⟨t6, t7⟩, t8, t9, t10, t11⟩ := HST9.out.cells; clear u0 u1 u2 u3 u4 u5 u6 u7 u8 u9 u10 u11 hc9)
      | (go_at_call 34; refine (eqLR_any _ _ _ _ r'.s.length r'.g.length c1 c0 e1 e0 r'.c r'.i r'.s r'.g _ hl1 hl2 HST9.out.g0.led HST9.out.o0.led).mono ?_; rintro e w10 ⟨rfl, hb10⟩; have HST10 : Hid (St4 w w10 ta n tc ga m gc w2.heap.size w3.heap.size w4.heap.size w5.heap.size r' a0 d0 c0 e0 g2 k2 g3 k3 a1 d1 c1 e1 (r'.s.map Value.string) (gcells r'.g)) := HST9.out.step hb10; clear t0 t1 t2 t3 t4 t5 t6 t7 t8 t9 t10 t11; obtain ⟨⟨t0, t1⟩, ⟨t2, t3, t4, t5⟩, ⟨t6, t7⟩, t8, t9, t10, t11⟩ := HST10.out.cells; clear hb10)
      | (go_at_call 36; refine (markLR_any _ _ r'.s.length r'.g.length c1 e1 (w4.heap.size + 1) w5.heap.size 1 _ _ r'.c r'.i _ (by omega) (by omega) (Nat.le_of_lt HST10.out.lts.2.2) HST10.out.g0).mono ?_; rintro e w11 ⟨rfl, ho11, hc11⟩; have HST11 : Hid (St4 w w11 ta n tc ga m gc w2.heap.size w3.heap.size w4.heap.size w5.heap.size r' a0 d0 c0 e0 g2 k2 g3 k3 a1 d1 c1 e1 (mkL 1 r'.s.length) (mkG (1 + r'.s.length) r'.g.length)) := HST10.out.chgG hc11 ho11; clear t0 t1 t2 t3 t4 t5 t6 t7 t8 t9 t10 t11; obtain ⟨⟨t0, t1⟩, ⟨t2, t3, t4, t5⟩, ⟨t6, t7⟩, t8, t9, t10, t11⟩ := HST11.out.cells; clear hc11 ho11)
      | (go_at_call 37; refine (heldLR_any _ _ r'.s.length r'.g.length c1 e1 (w4.heap.size + 1) w5.heap.size 1 r'.c r'.i _ (by omega) (by omega) HST11.out.g0).mono ?_; rintro e w12 ⟨rfl, hb12⟩; have HST12 : Hid (St4 w w12 ta n tc ga m gc w2.heap.size w3.heap.size w4.heap.size w5.heap.size r' a0 d0 c0 e0 g2 k2 g3 k3 a1 d1 c1 e1 (mkL 1 r'.s.length) (mkG (1 + r'.s.length) r'.g.length)) := HST11.out.step hb12; clear t0 t1 t2 t3 t4 t5 t6 t7 t8 t9 t10 t11; obtain ⟨⟨t0, t1⟩, ⟨t2, t3, t4, t5⟩, ⟨t6, t7⟩, t8, t9, t10, t11⟩ := HST12.out.cells; clear hb12))
    refine (toL_any ta ga n m tc gc ss gs w12 hn2 hm2 (HST12.out.bx.led HL.out)).mono ?_
    rintro e w13 ⟨g8, k8, g9, k9, rfl, ho13, hb13⟩
    have him2 := iSignId_any n m k8 k9 _ _ ss gs x y w13 HXL.out HYL.out HF.out (ho13.led HN.out HM.out)
    rw [← HRES.out] at him2
    have HST13 : Hid (St4 w w13 ta n tc ga m gc w2.heap.size w3.heap.size w4.heap.size w5.heap.size r' a0 d0 c0 e0 g2 k2 g3 k3 a1 d1 c1 e1 (mkL 1 r'.s.length) (mkG (1 + r'.s.length) r'.g.length)) := HST12.out.step hb13
    clear t0 t1 t2 t3 t4 t5 t6 t7 t8 t9 t10 t11 ho13 hb13 HST8 HST9 HST10 HST11 HST12 hmk
    go_wp2_with (first
      | (go_at_call 23; refine him2.mono ?_; rintro e w14 ⟨hb14, a2, c2, d2, e2, rfl, ho14, ho14g⟩; have HST14 : Hid (St4 w (w14.alloc (.cells #[.int .i64 r'.c, .int .i64 r'.i, .slice a2 r'.s.length c2, .slice d2 r'.g.length e2] 31)) ta n tc ga m gc w2.heap.size w3.heap.size w4.heap.size w5.heap.size r' a0 d0 c0 e0 g2 k2 g3 k3 a1 d1 c1 e1 (mkL 1 r'.s.length) (mkG (1 + r'.s.length) r'.g.length)) := (HST13.out.step hb14).step (below_box _); obtain ⟨⟨t0, t1⟩, ⟨t2, t3, t4, t5⟩, ⟨t6, t7⟩, t8, t9, t10, t11⟩ := HST14.out.cells; have HI : Hid (LedAt (w14.alloc (.cells #[.int .i64 r'.c, .int .i64 r'.i, .slice a2 r'.s.length c2, .slice d2 r'.g.length e2] 31)) a2 r'.s.length d2 r'.g.length r'.s r'.g) := ((own2_of ho14 ho14g).below (below_box _)).led; clear hb14 ho14 ho14g)
      | (go_at_call 34; refine (eqLR_any _ _ _ _ r'.s.length r'.g.length c2 c0 e2 e0 r'.c r'.i r'.s r'.g _ hl1 hl2 HI.out HST14.out.o0.led).mono ?_; rintro e w15 ⟨rfl, hb15⟩; have HST15 : Hid (St4 w w15 ta n tc ga m gc w2.heap.size w3.heap.size w4.heap.size w5.heap.size r' a0 d0 c0 e0 g2 k2 g3 k3 a1 d1 c1 e1 (mkL 1 r'.s.length) (mkG (1 + r'.s.length) r'.g.length)) := HST14.out.step hb15; clear t0 t1 t2 t3 t4 t5 t6 t7 t8 t9 t10 t11; obtain ⟨⟨t0, t1⟩, ⟨t2, t3, t4, t5⟩, ⟨t6, t7⟩, t8, t9, t10, t11⟩ := HST15.out.cells; clear hb15)
      | (go_at_call 37; refine (heldLR_any _ _ r'.s.length r'.g.length c1 e1 (w4.heap.size + 1) w5.heap.size 1 r'.c r'.i _ (by omega) (by omega) HST15.out.g0).mono ?_; rintro e w16 ⟨rfl, hb16⟩))
    go_ret
    exact ⟨rfl, (HST15.out.step hb16).bx.bel⟩

end Go.Proofs.Ytcknploejoecdaa
