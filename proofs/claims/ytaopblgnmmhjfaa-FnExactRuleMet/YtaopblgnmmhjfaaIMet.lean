/- Is a rule met: the program's way. -/
import Derived.Test.YtaopblgnmmhjfaaMet
namespace Go.Proofs.Ytaopblgnmmhjfaa
open Go.RowKit Go.Shelf Go.Maps Go.WideMaps

theorem wf_list {l : List Int} (hw : ∀ k ∈ l, (Lit.int .i64 k).wf = true) : ∃ zs : List Wf, zs.map Subtype.val = l := by
  induction l with
  | nil => exact ⟨[], rfl⟩
  | cons k t ih =>
    obtain ⟨zs, e⟩ := ih fun j hj => hw j (List.mem_cons_of_mem _ hj)
    exact ⟨⟨k, hw k (List.mem_cons_self ..)⟩ :: zs, by rw [List.map_cons, e]⟩

/-- What is known behind a call of a block of three cells. -/
theorem keep3' {v v' : World} {P : Nat} {c0 c1 c2 : Value} (hl : P < v.heap.size) (hb : Below v.heap.size v v') (h : v.cell? ⟨P, 0, none⟩ = some c0 ∧ v.cell? ⟨P, 1, none⟩ = some c1 ∧ v.cell? ⟨P, 2, none⟩ = some c2) : v'.cell? ⟨P, 0, none⟩ = some c0 ∧ v'.cell? ⟨P, 1, none⟩ = some c1 ∧ v'.cell? ⟨P, 2, none⟩ = some c2 :=
  ⟨(hb.cell (p := ⟨P, 0, none⟩) hl).trans h.1, (hb.cell (p := ⟨P, 1, none⟩) hl).trans h.2.1, (hb.cell (p := ⟨P, 2, none⟩) hl).trans h.2.2⟩

/-- The signers are told, and counted. -/
theorem eachSigner_any (p : Value) (q base n cap : Nat) (a : Option Addr) (l : List Int) (x y id : Int) (gs : List (Int × Int)) (w : World) (hn : n ≤ 1048576) (hI : IAt w a n l) (hw : ∀ k ∈ l, (Lit.int .i64 k).wf = true) (hwi : (Lit.int .i64 id).wf = true) (hT : TwG w base q gs) :
    Calls Try.prog 116 #[.agg #[p, .pointer (some ⟨q, 0, none⟩)], .agg #[.slice a n cap, .int .i64 x, .int .i64 y], .int .i64 id] w fun e w' => ∃ lb, e = .returned (.func (.func 147) #[] lb) ∧ Below w.heap.size w w' ∧
      Hid (Calls Try.prog 115 #[.func (.func 147) #[] lb] w' fun e w'' => e = .returned (.int .i64 (cntK l gs id : Nat)) ∧ Below w'.heap.size w' w'') := by
  have hmf : ∀ (fn : Fn) (first cap : Array Value) (w : World), (Instr.makeFunc fn first cap).run Try.prog w = .ok (.func fn first cap) w := fun _ _ _ _ => rfl
  obtain ⟨zs, hz⟩ := wf_list hw
  have hbx : Below w.heap.size w (((w.alloc (.cells #[p, .pointer (some ⟨q, 0, none⟩)] 100)).alloc (.cells #[.slice a n cap, .int .i64 x, .int .i64 y] 70)).alloc (.cells #[.int .i64 id] 2)) := below_box3 _ _ _
  have hb2 : Below (w.alloc (.cells #[p, .pointer (some ⟨q, 0, none⟩)] 100)).heap.size (w.alloc (.cells #[p, .pointer (some ⟨q, 0, none⟩)] 100)) (((w.alloc (.cells #[p, .pointer (some ⟨q, 0, none⟩)] 100)).alloc (.cells #[.slice a n cap, .int .i64 x, .int .i64 y] 70)).alloc (.cells #[.int .i64 id] 2)) := below_box2 _ _
  have hB := (keepb (heap_alloc_new w (.cells #[p, .pointer (some ⟨q, 0, none⟩)] 100)) hb2).out
  have hR := (keepb (heap_alloc_new (w.alloc (.cells #[p, .pointer (some ⟨q, 0, none⟩)] 100)) (.cells #[.slice a n cap, .int .i64 x, .int .i64 y] 70)) (below_box (.cells #[.int .i64 id] 2))).out
  have hD := heap_alloc_new ((w.alloc (.cells #[p, .pointer (some ⟨q, 0, none⟩)] 100)).alloc (.cells #[.slice a n cap, .int .i64 x, .int .i64 y] 70)) (.cells #[.int .i64 id] 2)
  simp only [World.size_alloc] at hR hD
  have hcount := countKeys_any 147 #[.pointer (some ⟨w.heap.size + 1, 0, none⟩), .pointer (some ⟨w.heap.size, 0, none⟩), .pointer (some ⟨w.heap.size + 1 + 1, 0, none⟩)] _ _
    (signers_tell (w.heap.size + 1) w.heap.size (w.heap.size + 1 + 1) q base n cap a zs x y id gs p _ hn (by rw [hz]; exact hI.below hbx (Nat.le_refl _)) hwi hR hB hD (hT.below hbx)) (enters_of Try.func147 (by kernel_rfl) rfl)
  rw [hz] at hcount
  have HC : Hid _ := hcount
  have HB : Hid (Below w.heap.size w (((w.alloc (.cells #[p, .pointer (some ⟨q, 0, none⟩)] 100)).alloc (.cells #[.slice a n cap, .int .i64 x, .int .i64 y] 70)).alloc (.cells #[.int .i64 id] 2))) := hbx
  clear hcount hbx hb2 hB hR hD hT hI hw hz zs
  go_enter Try.func116, Try.ntmps116
  go_wp2
  go_ret
  exact ⟨_, rfl, HB.out, HC⟩

set_option maxRecDepth 20000 in
set_option maxHeartbeats 2000000 in
theorem iRuleMet_any (n m tc gc k cap : Nat) (ta ga a : Option Addr) (ss : List ByteArray) (gs : List (Int × Int)) (l : List Int) (x y id h : Int) (w : World) (hf : Fine ss gs) (hL : LedAt w ta n ga m ss gs) (hk : k ≤ 1048576) (hI : IAt w a k l) (hw : ∀ k ∈ l, (Lit.int .i64 k).wf = true) (hwi : (Lit.int .i64 id).wf = true) :
    Calls Try.prog 55 #[.agg #[.slice ta n tc, .slice ga m gc], .agg #[.slice a k cap, .int .i64 x, .int .i64 y], .int .i64 id, .int .i64 h] w fun e w' => e = .returned (.int .i64 (metR ss gs l x y id h)) ∧ Below w.heap.size w w' := by
  have B0 := LR.start (w := w) (tl := 27) (tr := 70) (ta := ta) (n := n) (tc := tc) (ga := ga) (m := m) (gc := gc) (a := a) (k := k) (cap := cap) (x := x) (y := y)
  have hrl := readLedger_any n m tc gc ta ga ss gs _ hf.s hf.g (hL.s.below B0.bel (Nat.le_refl _)) (hL.g.below B0.bel (Nat.le_refl _))
  have HN : Hid (ss.length = n) := hL.s.1
  have HI : Hid (IAt w a k l) := hI
  have HW : Hid ((∀ k ∈ l, (Lit.int .i64 k).wf = true) ∧ (Lit.int .i64 id).wf = true) := ⟨hw, hwi⟩
  obtain ⟨r, hr⟩ : ∃ r, r = metR ss gs l x y id h := ⟨_, rfl⟩
  obtain ⟨r1, hr1⟩ : ∃ r, r = flt ss gs := ⟨_, rfl⟩
  obtain ⟨r2, hr2⟩ : ∃ r, r = ruleR l x y := ⟨_, rfl⟩
  obtain ⟨bi, hbi⟩ : ∃ r, r = inB id 1 n := ⟨_, rfl⟩
  obtain ⟨bh, hbh⟩ : ∃ r, r = inB h 0 999 := ⟨_, rfl⟩
  obtain ⟨cn, hcn⟩ : ∃ r, r = cntK l gs id := ⟨_, rfl⟩
  have HR : Hid (r = if r1 ≠ 0 then r1 else if r2 ≠ 0 then r2 else if bi = false ∨ bh = false then 3 else if h < y then 9 else if (cn : Int) < x then 6 else 0) := by show _ = _; rw [hr, hr1, hr2, hbi, hbh, hcn, ← hL.s.1]; rfl
  rw [← hr]
  have hht : ∀ v, Calls Try.prog 111 #[.int .i64 h] v fun e w' => e = .returned (.bool bh) ∧ w' = v := fun v => by rw [hbh]; exact isHeight_any h v
  have HRF : Hid (∀ v, LR w v 27 70 ta n tc ga m gc a k cap x y → Hid (Calls Try.prog 52 #[.agg #[.slice a k cap, .int .i64 x, .int .i64 y]] v fun e w' => e = .returned (.int .i64 r2) ∧ Below v.heap.size v w')) := fun v hv => by
    show Calls _ _ _ _ _; rw [hr2]; exact iRuleFault_any k cap a l x y v hk (HI.out.below hv.bel (Nat.le_refl _))
  have HID : Hid (∀ v p, (∃ base, TwS v base p ss) → Hid (Calls Try.prog 82 #[.pointer (some ⟨p, 0, none⟩), .int .i64 id] v fun e w' => e = .returned (.bool bi) ∧ w' = v)) := fun v p ⟨base, hv⟩ => by
    show Calls _ _ _ _ _
    obtain ⟨ia, ic, hc, _⟩ := hv.items
    rw [HN.out] at hc
    rw [hbi]; exact hasNumber_any p n ic ia id v hc
  have HES : Hid (∀ v p q base, LR w v 27 70 ta n tc ga m gc a k cap x y → TwG v base q gs → Hid (Calls Try.prog 116 #[.agg #[p, .pointer (some ⟨q, 0, none⟩)], .agg #[.slice a k cap, .int .i64 x, .int .i64 y], .int .i64 id] v.drew fun e w' => ∃ lb, e = .returned (.func (.func 147) #[] lb) ∧ Below v.heap.size v w' ∧
      Hid (Calls Try.prog 115 #[.func (.func 147) #[] lb] w' fun e w'' => e = .returned (.int .i64 (cn : Nat)) ∧ Below w'.heap.size w' w''))) := fun v p q base hv hq => by
    have hd : Below v.heap.size v v.drew := (Below.refl _ _).drew
    have := eachSigner_any p q base k cap a l x y id gs v.drew hk ((HI.out.below hv.bel (Nat.le_refl _)).below hd (Nat.le_refl _)) HW.out.1 HW.out.2 (hq.below hd)
    rw [← hcn] at this
    exact this.mono fun e w' ⟨lb, h1, h2, h3⟩ => ⟨lb, h1, hd.trans h2, h3⟩
  have HB0 : Hid (LR w ((w.alloc (.cells #[.slice ta n tc, .slice ga m gc] 27)).alloc (.cells #[.slice a k cap, .int .i64 x, .int .i64 y] 70)) 27 70 ta n tc ga m gc a k cap x y) := B0
  have hrl2 := hrl.mono fun e w' (hq : RL ss gs _ w' e) => show Below ((w.alloc (.cells #[.slice ta n tc, .slice ga m gc] 27)).alloc (.cells #[.slice a k cap, .int .i64 x, .int .i64 y] 70)).heap.size ((w.alloc (.cells #[.slice ta n tc, .slice ga m gc] 27)).alloc (.cells #[.slice a k cap, .int .i64 x, .int .i64 y] 70)) w' ∧
      ((r1 = 0 ∧ ∃ p q, e = .returned (.tuple #[.agg #[.pointer (some ⟨p, 0, none⟩), .pointer (some ⟨q, 0, none⟩)], .int .i64 0]) ∧ Hid ((∃ base, TwS w' base p ss) ∧ ∃ top, TwG w' top q gs)) ∨ (r1 ≠ 0 ∧ e = .returned (.tuple #[.agg #[.pointer none, .pointer none], .int .i64 r1]))) by
    rw [hr1]
    rcases hq with ⟨hbl, ⟨hz, p, q, top, he, h1, h2, h3, h4⟩ | hh⟩
    · exact ⟨hbl, .inl ⟨hz, p, q, he, ⟨_, h1⟩, top, h3⟩⟩
    · exact ⟨hbl, .inr hh⟩
  clear hr hr1 hr2 hbi hbh hcn hrl B0 hL hI hf hw hwi
  by_cases h1 : r1 = 0
  · subst h1
    have hrl3 := hrl2.mono fun e w' hq => show ∃ p q, e = .returned (.tuple #[.agg #[.pointer (some ⟨p, 0, none⟩), .pointer (some ⟨q, 0, none⟩)], .int .i64 0]) ∧ Hid ((∃ base, TwS w' base p ss) ∧ ∃ top, TwG w' top q gs) ∧ Below ((w.alloc (.cells #[.slice ta n tc, .slice ga m gc] 27)).alloc (.cells #[.slice a k cap, .int .i64 x, .int .i64 y] 70)).heap.size ((w.alloc (.cells #[.slice ta n tc, .slice ga m gc] 27)).alloc (.cells #[.slice a k cap, .int .i64 x, .int .i64 y] 70)) w' by
      rcases hq with ⟨hbl, ⟨_, p, q, he, h3⟩ | ⟨h0, _⟩⟩
      · exact ⟨p, q, he, h3, hbl⟩
      · exact absurd rfl h0
    clear hrl2
    by_cases h2 : r2 = 0
    · subst h2
      cases bi
      · obtain rfl : r = 3 := by rw [HR.out]; simp
        go_enter Try.func55, Try.ntmps55
        go_wp2_with (first
          | (go_at_call 73; refine hrl3.mono ?_; clear hrl3; rintro e w1 ⟨p, q, rfl, HT1, hb1⟩; have hbb := below_box (w := w1) (.cells #[.pointer (some ⟨p, 0, none⟩), .pointer (some ⟨q, 0, none⟩)] 100); have HB1 : Hid (LR w (w1.alloc (.cells #[.pointer (some ⟨p, 0, none⟩), .pointer (some ⟨q, 0, none⟩)] 100)) 27 70 ta n tc ga m gc a k cap x y) := (HB0.out.step hb1).step hbb; have HT2 : Hid ((∃ base, TwS (w1.alloc (.cells #[.pointer (some ⟨p, 0, none⟩), .pointer (some ⟨q, 0, none⟩)] 100)) base p ss) ∧ ∃ top, TwG (w1.alloc (.cells #[.pointer (some ⟨p, 0, none⟩), .pointer (some ⟨q, 0, none⟩)] 100)) top q gs) := ⟨⟨_, HT1.out.1.choose_spec.below hbb⟩, _, HT1.out.2.choose_spec.below hbb⟩; have HX1 := show Hid ((w1.alloc (.cells #[.pointer (some ⟨p, 0, none⟩), .pointer (some ⟨q, 0, none⟩)] 100)).heap[w1.heap.size]? = some (.cells #[.pointer (some ⟨p, 0, none⟩), .pointer (some ⟨q, 0, none⟩)] 100 (0, 0))) from heap_alloc_new _ _; obtain ⟨p0, p1, p2⟩ := cells3 HB1.out.rul; have hrf1 := HRF.out _ HB1.out; clear hb1 hbb HT1)
          | (go_at_call 52; refine hrf1.out.mono ?_; clear hrf1; rintro e w2 ⟨rfl, hb2⟩; have HB2 : Hid (LR w w2 27 70 ta n tc ga m gc a k cap x y) := HB1.out.step hb2; have HT3 : Hid ((∃ base, TwS w2 base p ss) ∧ ∃ top, TwG w2 top q gs) := ⟨⟨_, HT2.out.1.choose_spec.below hb2⟩, _, HT2.out.2.choose_spec.below hb2⟩; have HX2 := keepb HX1.out hb2; clear p0 p1 p2; obtain ⟨p0, p1, p2⟩ := cells3 HB2.out.rul; obtain ⟨x0, x1⟩ := cells2 HX2.out; have hid2 := HID.out w2 p HT3.out.1; clear hb2 HT2 HX1 HB1)
          | (go_at_call 82; refine hid2.out.mono ?_; clear hid2; rintro e w' ⟨rfl, hw⟩; have hw2 := hw.symm; subst hw2))
        go_ret
        exact ⟨rfl, HB2.out.bel⟩
      cases bh
      · obtain rfl : r = 3 := by rw [HR.out]; simp
        go_enter Try.func55, Try.ntmps55
        go_wp2_with (first
          | (go_at_call 73; refine hrl3.mono ?_; clear hrl3; rintro e w1 ⟨p, q, rfl, HT1, hb1⟩; have hbb := below_box (w := w1) (.cells #[.pointer (some ⟨p, 0, none⟩), .pointer (some ⟨q, 0, none⟩)] 100); have HB1 : Hid (LR w (w1.alloc (.cells #[.pointer (some ⟨p, 0, none⟩), .pointer (some ⟨q, 0, none⟩)] 100)) 27 70 ta n tc ga m gc a k cap x y) := (HB0.out.step hb1).step hbb; have HT2 : Hid ((∃ base, TwS (w1.alloc (.cells #[.pointer (some ⟨p, 0, none⟩), .pointer (some ⟨q, 0, none⟩)] 100)) base p ss) ∧ ∃ top, TwG (w1.alloc (.cells #[.pointer (some ⟨p, 0, none⟩), .pointer (some ⟨q, 0, none⟩)] 100)) top q gs) := ⟨⟨_, HT1.out.1.choose_spec.below hbb⟩, _, HT1.out.2.choose_spec.below hbb⟩; have HX1 := show Hid ((w1.alloc (.cells #[.pointer (some ⟨p, 0, none⟩), .pointer (some ⟨q, 0, none⟩)] 100)).heap[w1.heap.size]? = some (.cells #[.pointer (some ⟨p, 0, none⟩), .pointer (some ⟨q, 0, none⟩)] 100 (0, 0))) from heap_alloc_new _ _; obtain ⟨p0, p1, p2⟩ := cells3 HB1.out.rul; have hrf1 := HRF.out _ HB1.out; clear hb1 hbb HT1)
          | (go_at_call 52; refine hrf1.out.mono ?_; clear hrf1; rintro e w2 ⟨rfl, hb2⟩; have HB2 : Hid (LR w w2 27 70 ta n tc ga m gc a k cap x y) := HB1.out.step hb2; have HT3 : Hid ((∃ base, TwS w2 base p ss) ∧ ∃ top, TwG w2 top q gs) := ⟨⟨_, HT2.out.1.choose_spec.below hb2⟩, _, HT2.out.2.choose_spec.below hb2⟩; have HX2 := keepb HX1.out hb2; clear p0 p1 p2; obtain ⟨p0, p1, p2⟩ := cells3 HB2.out.rul; obtain ⟨x0, x1⟩ := cells2 HX2.out; have hid2 := HID.out w2 p HT3.out.1; clear hb2 HT2 HX1 HB1)
          | (go_at_call 82; refine hid2.out.mono ?_; clear hid2; rintro e w' ⟨rfl, hw⟩; have hw2 := hw.symm; subst hw2)
          | (go_at_call 111; refine (hht _).mono ?_; rintro e w' ⟨rfl, hw⟩; have hw2 := hw.symm; subst hw2))
        go_ret
        exact ⟨rfl, HB2.out.bel⟩
      have hr3 : r = if h < y then 9 else if (cn : Int) < x then 6 else 0 := by rw [HR.out]; simp
      by_cases hy : h < y
      · obtain rfl : r = 9 := by rw [hr3, if_pos hy]
        clear hr3
        go_enter Try.func55, Try.ntmps55
        go_wp2_with (first
          | (go_at_call 73; refine hrl3.mono ?_; clear hrl3; rintro e w1 ⟨p, q, rfl, HT1, hb1⟩; have hbb := below_box (w := w1) (.cells #[.pointer (some ⟨p, 0, none⟩), .pointer (some ⟨q, 0, none⟩)] 100); have HB1 : Hid (LR w (w1.alloc (.cells #[.pointer (some ⟨p, 0, none⟩), .pointer (some ⟨q, 0, none⟩)] 100)) 27 70 ta n tc ga m gc a k cap x y) := (HB0.out.step hb1).step hbb; have HT2 : Hid ((∃ base, TwS (w1.alloc (.cells #[.pointer (some ⟨p, 0, none⟩), .pointer (some ⟨q, 0, none⟩)] 100)) base p ss) ∧ ∃ top, TwG (w1.alloc (.cells #[.pointer (some ⟨p, 0, none⟩), .pointer (some ⟨q, 0, none⟩)] 100)) top q gs) := ⟨⟨_, HT1.out.1.choose_spec.below hbb⟩, _, HT1.out.2.choose_spec.below hbb⟩; have HX1 := show Hid ((w1.alloc (.cells #[.pointer (some ⟨p, 0, none⟩), .pointer (some ⟨q, 0, none⟩)] 100)).heap[w1.heap.size]? = some (.cells #[.pointer (some ⟨p, 0, none⟩), .pointer (some ⟨q, 0, none⟩)] 100 (0, 0))) from heap_alloc_new _ _; obtain ⟨p0, p1, p2⟩ := cells3 HB1.out.rul; have hrf1 := HRF.out _ HB1.out; clear hb1 hbb HT1)
          | (go_at_call 52; refine hrf1.out.mono ?_; clear hrf1; rintro e w2 ⟨rfl, hb2⟩; have HB2 : Hid (LR w w2 27 70 ta n tc ga m gc a k cap x y) := HB1.out.step hb2; have HT3 : Hid ((∃ base, TwS w2 base p ss) ∧ ∃ top, TwG w2 top q gs) := ⟨⟨_, HT2.out.1.choose_spec.below hb2⟩, _, HT2.out.2.choose_spec.below hb2⟩; have HX2 := keepb HX1.out hb2; clear p0 p1 p2; obtain ⟨p0, p1, p2⟩ := cells3 HB2.out.rul; obtain ⟨x0, x1⟩ := cells2 HX2.out; have hid2 := HID.out w2 p HT3.out.1; clear hb2 HT2 HX1 HB1)
          | (go_at_call 82; refine hid2.out.mono ?_; clear hid2; rintro e w' ⟨rfl, hw⟩; have hw2 := hw.symm; subst hw2)
          | (go_at_call 111; refine (hht _).mono ?_; rintro e w' ⟨rfl, hw⟩; have hw2 := hw.symm; subst hw2))
        go_ret
        exact ⟨rfl, HB2.out.bel⟩
      rw [if_neg hy] at hr3
      have HR3 : Hid (r = if (cn : Int) < x then 6 else 0) := hr3
      clear hr3 HR
      go_enter Try.func55, Try.ntmps55
      go_wp2_with (first
        | (go_at_call 73; refine hrl3.mono ?_; clear hrl3; rintro e w1 ⟨p, q, rfl, HT1, hb1⟩; have hbb := below_box (w := w1) (.cells #[.pointer (some ⟨p, 0, none⟩), .pointer (some ⟨q, 0, none⟩)] 100); have HB1 : Hid (LR w (w1.alloc (.cells #[.pointer (some ⟨p, 0, none⟩), .pointer (some ⟨q, 0, none⟩)] 100)) 27 70 ta n tc ga m gc a k cap x y) := (HB0.out.step hb1).step hbb; have HT2 : Hid ((∃ base, TwS (w1.alloc (.cells #[.pointer (some ⟨p, 0, none⟩), .pointer (some ⟨q, 0, none⟩)] 100)) base p ss) ∧ ∃ top, TwG (w1.alloc (.cells #[.pointer (some ⟨p, 0, none⟩), .pointer (some ⟨q, 0, none⟩)] 100)) top q gs) := ⟨⟨_, HT1.out.1.choose_spec.below hbb⟩, _, HT1.out.2.choose_spec.below hbb⟩; have HX1 := show Hid ((w1.alloc (.cells #[.pointer (some ⟨p, 0, none⟩), .pointer (some ⟨q, 0, none⟩)] 100)).heap[w1.heap.size]? = some (.cells #[.pointer (some ⟨p, 0, none⟩), .pointer (some ⟨q, 0, none⟩)] 100 (0, 0))) from heap_alloc_new _ _; obtain ⟨p0, p1, p2⟩ := cells3 HB1.out.rul; have hrf1 := HRF.out _ HB1.out; clear hb1 hbb HT1)
        | (go_at_call 52; refine hrf1.out.mono ?_; clear hrf1; rintro e w2 ⟨rfl, hb2⟩; have HB2 : Hid (LR w w2 27 70 ta n tc ga m gc a k cap x y) := HB1.out.step hb2; have HT3 : Hid ((∃ base, TwS w2 base p ss) ∧ ∃ top, TwG w2 top q gs) := ⟨⟨_, HT2.out.1.choose_spec.below hb2⟩, _, HT2.out.2.choose_spec.below hb2⟩; have HX2 := keepb HX1.out hb2; clear p0 p1 p2; obtain ⟨p0, p1, p2⟩ := cells3 HB2.out.rul; obtain ⟨x0, x1⟩ := cells2 HX2.out; have hid2 := HID.out w2 p HT3.out.1; clear hb2 HT2 HX1 HB1)
        | (go_at_call 82; refine hid2.out.mono ?_; clear hid2; rintro e w' ⟨rfl, hw⟩; have hw2 := hw.symm; subst hw2)
        | (go_at_call 111; refine (hht _).mono ?_; rintro e w' ⟨rfl, hw⟩; have hw2 := hw.symm; subst hw2))
      have hl1 := lt_of_block HX2.out
      have hl2 := lt_of_block HB2.out.rul
      obtain ⟨top, htop⟩ := HT3.out.2
      have hes := HES.out w2 (.pointer (some ⟨p, 0, none⟩)) q top HB2.out htop
      clear htop
      go_region_held3 (fun w' => (w'.cell? ⟨w1.heap.size, 0, none⟩ = some (.pointer (some ⟨p, 0, none⟩)) ∧ w'.cell? ⟨w1.heap.size, 1, none⟩ = some (.pointer (some ⟨q, 0, none⟩))) ∧ w'.cell? ⟨w.heap.size + 1, 0, none⟩ = some (.slice a k cap) ∧ w'.cell? ⟨w.heap.size + 1, 1, none⟩ = some (.int .i64 x) ∧ w'.cell? ⟨w.heap.size + 1, 2, none⟩ = some (.int .i64 y)) (go_keep)
        (first
          | (go_at_call 116; refine hes.out.mono ?_; rintro e w5 ⟨lb, rfl, hb5, HC5⟩; obtain ⟨z0, z1, z2⟩ := keep3' hl2 hb5 ⟨p0, p1, p2⟩; have z3 := (hb5.cell (p := ⟨w1.heap.size, 0, none⟩) hl1).trans x0; have z4 := (hb5.cell (p := ⟨w1.heap.size, 1, none⟩) hl1).trans x1)
          | (go_at_call 115; refine HC5.out.mono ?_; rintro e w6 ⟨rfl, hb6⟩; have hs5 := hb5.size; obtain ⟨y0, y1, y2⟩ := keep3' (Nat.lt_of_lt_of_le hl2 hs5) hb6 ⟨z0, z1, z2⟩; have y3 := (hb6.cell (p := ⟨w1.heap.size, 0, none⟩) (Nat.lt_of_lt_of_le hl1 hs5)).trans z3; have y4 := (hb6.cell (p := ⟨w1.heap.size, 1, none⟩) (Nat.lt_of_lt_of_le hl1 hs5)).trans z4))
      by_cases hx : (cn : Int) < x
      · obtain rfl : r = 6 := by rw [HR3.out, if_pos hx]
        go_wp2
        go_ret
        exact ⟨rfl, ((HB2.out.step hb5).step hb6).bel⟩
      · obtain rfl : r = 0 := by rw [HR3.out, if_neg hx]
        go_wp2
        go_ret
        exact ⟨rfl, ((HB2.out.step hb5).step hb6).bel⟩
    · obtain rfl : r = r2 := by rw [HR.out]; simp [h2]
      go_enter Try.func55, Try.ntmps55
      go_wp2_with (first
        | (go_at_call 73; refine hrl3.mono ?_; clear hrl3; rintro e w1 ⟨p, q, rfl, HT1, hb1⟩; have hbb := below_box (w := w1) (.cells #[.pointer (some ⟨p, 0, none⟩), .pointer (some ⟨q, 0, none⟩)] 100); have HB1 : Hid (LR w (w1.alloc (.cells #[.pointer (some ⟨p, 0, none⟩), .pointer (some ⟨q, 0, none⟩)] 100)) 27 70 ta n tc ga m gc a k cap x y) := (HB0.out.step hb1).step hbb; have HT2 : Hid ((∃ base, TwS (w1.alloc (.cells #[.pointer (some ⟨p, 0, none⟩), .pointer (some ⟨q, 0, none⟩)] 100)) base p ss) ∧ ∃ top, TwG (w1.alloc (.cells #[.pointer (some ⟨p, 0, none⟩), .pointer (some ⟨q, 0, none⟩)] 100)) top q gs) := ⟨⟨_, HT1.out.1.choose_spec.below hbb⟩, _, HT1.out.2.choose_spec.below hbb⟩; have HX1 := show Hid ((w1.alloc (.cells #[.pointer (some ⟨p, 0, none⟩), .pointer (some ⟨q, 0, none⟩)] 100)).heap[w1.heap.size]? = some (.cells #[.pointer (some ⟨p, 0, none⟩), .pointer (some ⟨q, 0, none⟩)] 100 (0, 0))) from heap_alloc_new _ _; obtain ⟨p0, p1, p2⟩ := cells3 HB1.out.rul; have hrf1 := HRF.out _ HB1.out; clear hb1 hbb HT1)
        | (go_at_call 52; refine hrf1.out.mono ?_; clear hrf1; rintro e w2 ⟨rfl, hb2⟩; have HB2 : Hid (LR w w2 27 70 ta n tc ga m gc a k cap x y) := HB1.out.step hb2; have HT3 : Hid ((∃ base, TwS w2 base p ss) ∧ ∃ top, TwG w2 top q gs) := ⟨⟨_, HT2.out.1.choose_spec.below hb2⟩, _, HT2.out.2.choose_spec.below hb2⟩; have HX2 := keepb HX1.out hb2; clear p0 p1 p2; obtain ⟨p0, p1, p2⟩ := cells3 HB2.out.rul; obtain ⟨x0, x1⟩ := cells2 HX2.out; have hid2 := HID.out w2 p HT3.out.1; clear hb2 HT2 HX1 HB1))
      go_ret
      exact ⟨rfl, HB2.out.bel⟩
  · obtain rfl : r = r1 := by rw [HR.out]; simp [h1]
    have hrl3 := hrl2.mono fun e w' hq => show e = .returned (.tuple #[.agg #[.pointer none, .pointer none], .int .i64 r]) ∧ Below ((w.alloc (.cells #[.slice ta n tc, .slice ga m gc] 27)).alloc (.cells #[.slice a k cap, .int .i64 x, .int .i64 y] 70)).heap.size ((w.alloc (.cells #[.slice ta n tc, .slice ga m gc] 27)).alloc (.cells #[.slice a k cap, .int .i64 x, .int .i64 y] 70)) w' by
      rcases hq with ⟨hbl, ⟨h0, _⟩ | ⟨_, he⟩⟩
      · exact absurd h0 h1
      · exact ⟨he, hbl⟩
    clear hrl2
    go_enter Try.func55, Try.ntmps55
    go_wp2_with (first
      | (go_at_call 73; refine hrl3.mono ?_; clear hrl3; rintro e w1 ⟨rfl, hb1⟩; have HB1 : Hid (LR w w1 27 70 ta n tc ga m gc a k cap x y) := HB0.out.step hb1; clear hb1))
    go_ret
    exact ⟨rfl, (HB1.out.step (below_box _)).bel⟩

end Go.Proofs.Ytaopblgnmmhjfaa
