/- Is a rule met: the program's way. -/
import Derived.Test.YtagokfoimokniaaGreatDoorMet
namespace Go.Proofs.YtagokfoimokniaaGreatDoor
open Go.RowKit Go.Shelf Go.Maps Go.WideMaps

theorem wf_list {l : List Int} (hw : ∀ k ∈ l, (Lit.int .i64 k).wf = true) : ∃ zs : List Wf, zs.map Subtype.val = l := by
  induction l with
  | nil => exact ⟨[], rfl⟩
  | cons k t ih =>
    obtain ⟨zs, e⟩ := ih fun j hj => hw j (List.mem_cons_of_mem _ hj)
    exact ⟨⟨k, hw k (List.mem_cons_self ..)⟩ :: zs, by rw [List.map_cons, e]⟩

/-- What is known behind a call of a block of three cells. -/
theorem keep3' {v v' : World} {P : Nat} {c0 c1 c2 : Value} (hl : P < v.heap.size) (hb : Below v.heap.size v v') (h : v.cell? ⟨P, 0, none⟩ = some c0 ∧ v.cell? ⟨P, 1, none⟩ = some c1 ∧ v.cell? ⟨P, 2, none⟩ = some c2) : v'.cell? ⟨P, 0, none⟩ = some c0 ∧ v'.cell? ⟨P, 1, none⟩ = some c1 ∧ v'.cell? ⟨P, 2, none⟩ = some c2 :=
  ⟨(hb.cell (p := ⟨P, 0, none⟩) hl).trans h.1, (hb.cell (p := ⟨P, 1, none⟩) hl).trans h.2.1, (hb.cell (p := ⟨P, 2, none⟩) hl).trans h.2.2⟩

/-- The signers are told, and counted. -/
theorem eachSigner_any (pp : Option Addr) (q base n cap : Nat) (a : Option Addr) (l : List Int) (x y id : Int) (gs : List (Int × Int)) (w : World) (hn : n ≤ 1048576) (hI : IAt w a n l) (hw : ∀ k ∈ l, (Lit.int .i64 k).wf = true) (hwi : (Lit.int .i64 id).wf = true) (hT : TwG w base q gs) :
    Calls Tryz.prog 91 #[.agg #[.pointer pp, .pointer (some ⟨q, 0, none⟩)], .agg #[.slice a n cap, .int .i64 x, .int .i64 y], .int .i64 id] w fun e w' => ∃ lb, e = .returned (.func (.func 138) #[] lb) ∧ Below w.heap.size w w' ∧
      Hid (Calls Tryz.prog 90 #[.func (.func 138) #[] lb] w' fun e w'' => e = .returned (.int .i64 (cntK l gs id : Nat)) ∧ Below w'.heap.size w' w'') := by
  have hmf : ∀ (fn : Fn) (first cap : Array Value) (w : World), (Instr.makeFunc fn first cap).run Tryz.prog w = .ok (.func fn first cap) w := fun _ _ _ _ => rfl
  obtain ⟨zs, hz⟩ := wf_list hw
  have hbx : Below w.heap.size w (((w.alloc (.cells #[.pointer pp, .pointer (some ⟨q, 0, none⟩)] 71)).alloc (.cells #[.slice a n cap, .int .i64 x, .int .i64 y] 50)).alloc (.cells #[.int .i64 id] 2)) := below_box3 _ _ _
  have hb2 : Below (w.alloc (.cells #[.pointer pp, .pointer (some ⟨q, 0, none⟩)] 71)).heap.size (w.alloc (.cells #[.pointer pp, .pointer (some ⟨q, 0, none⟩)] 71)) (((w.alloc (.cells #[.pointer pp, .pointer (some ⟨q, 0, none⟩)] 71)).alloc (.cells #[.slice a n cap, .int .i64 x, .int .i64 y] 50)).alloc (.cells #[.int .i64 id] 2)) := below_box2 _ _
  have hB := (keepb (heap_alloc_new w (.cells #[.pointer pp, .pointer (some ⟨q, 0, none⟩)] 71)) hb2).out
  have hR := (keepb (heap_alloc_new (w.alloc (.cells #[.pointer pp, .pointer (some ⟨q, 0, none⟩)] 71)) (.cells #[.slice a n cap, .int .i64 x, .int .i64 y] 50)) (below_box (.cells #[.int .i64 id] 2))).out
  have hD := heap_alloc_new ((w.alloc (.cells #[.pointer pp, .pointer (some ⟨q, 0, none⟩)] 71)).alloc (.cells #[.slice a n cap, .int .i64 x, .int .i64 y] 50)) (.cells #[.int .i64 id] 2)
  simp only [World.size_alloc] at hR hD
  have hcount := countKeys_any 138 #[.pointer (some ⟨w.heap.size + 1, 0, none⟩), .pointer (some ⟨w.heap.size, 0, none⟩), .pointer (some ⟨w.heap.size + 1 + 1, 0, none⟩)] _ _
    (signers_tell (w.heap.size + 1) w.heap.size (w.heap.size + 1 + 1) q base n cap a zs x y id gs pp _ hn (by rw [hz]; exact hI.below hbx (Nat.le_refl _)) hwi hR hB hD (hT.below hbx)) (enters_of Tryz.func138 (by kernel_rfl) rfl)
  rw [hz] at hcount
  have HC : Hid _ := hcount
  have HB : Hid (Below w.heap.size w (((w.alloc (.cells #[.pointer pp, .pointer (some ⟨q, 0, none⟩)] 71)).alloc (.cells #[.slice a n cap, .int .i64 x, .int .i64 y] 50)).alloc (.cells #[.int .i64 id] 2))) := hbx
  clear hcount hbx hb2 hB hR hD hT hI hw hz zs
  go_enter Tryz.func91, Tryz.ntmps91
  go_wp2
  go_ret
  exact ⟨_, rfl, HB.out, HC⟩

/-- Is a rule met, by a ledger that has no fault. -/
def metIn (ss : List ByteArray) (gs : List (Int × Int)) (l : List Int) (x y id h : Int) : Int :=
  if ruleR l x y ≠ 0 then ruleR l x y else if inB id 1 ss.length = false ∨ inB h 0 999 = false then 3 else if h < y then 9 else if (cntK l gs id : Int) < x then 6 else 0

set_option maxRecDepth 20000 in
set_option maxHeartbeats 2000000 in
theorem ruleMetIn_any (p q base top k cap : Nat) (a : Option Addr) (ss : List ByteArray) (gs : List (Int × Int)) (l : List Int) (x y id h : Int) (w : World) (hT : TwS w base p ss) (hG : TwG w top q gs) (hk : k ≤ 1048576) (hI : IAt w a k l) (hw : ∀ k ∈ l, (Lit.int .i64 k).wf = true) (hwi : (Lit.int .i64 id).wf = true) :
    Calls Tryz.prog 40 #[.agg #[.pointer (some ⟨p, 0, none⟩), .pointer (some ⟨q, 0, none⟩)], .agg #[.slice a k cap, .int .i64 x, .int .i64 y], .int .i64 id, .int .i64 h] w fun e w' => e = .returned (.int .i64 (metIn ss gs l x y id h)) ∧ Below w.heap.size w w' := by
  have hbx : Below w.heap.size w ((w.alloc (.cells #[.pointer (some ⟨p, 0, none⟩), .pointer (some ⟨q, 0, none⟩)] 71)).alloc (.cells #[.slice a k cap, .int .i64 x, .int .i64 y] 50)) := below_box2 _ _
  have hrf := iRuleFault_any k cap a l x y ((w.alloc (.cells #[.pointer (some ⟨p, 0, none⟩), .pointer (some ⟨q, 0, none⟩)] 71)).alloc (.cells #[.slice a k cap, .int .i64 x, .int .i64 y] 50)) hk (hI.below hbx (Nat.le_refl _))
  obtain ⟨r, hr⟩ : ∃ r, r = metIn ss gs l x y id h := ⟨_, rfl⟩
  obtain ⟨r2, hr2⟩ : ∃ r, r = ruleR l x y := ⟨_, rfl⟩
  obtain ⟨bi, hbi⟩ : ∃ r, r = inB id 1 ss.length := ⟨_, rfl⟩
  obtain ⟨bh, hbh⟩ : ∃ r, r = inB h 0 999 := ⟨_, rfl⟩
  obtain ⟨cn, hcn⟩ : ∃ r, r = cntK l gs id := ⟨_, rfl⟩
  have HR : Hid (r = if r2 ≠ 0 then r2 else if bi = false ∨ bh = false then 3 else if h < y then 9 else if (cn : Int) < x then 6 else 0) := by show _ = _; rw [hr, hr2, hbi, hbh, hcn]; rfl
  rw [← hr]
  rw [← hr2] at hrf
  have hht : ∀ v, Calls Tryz.prog 39 #[.int .i64 h] v fun e w' => e = .returned (.bool bh) ∧ w' = v := fun v => by rw [hbh]; exact isHeight_any h v
  have HBX : Hid (Below w.heap.size w ((w.alloc (.cells #[.pointer (some ⟨p, 0, none⟩), .pointer (some ⟨q, 0, none⟩)] 71)).alloc (.cells #[.slice a k cap, .int .i64 x, .int .i64 y] 50))) := hbx
  have T1 : Hid (((w.alloc (.cells #[.pointer (some ⟨p, 0, none⟩), .pointer (some ⟨q, 0, none⟩)] 71)).alloc (.cells #[.slice a k cap, .int .i64 x, .int .i64 y] 50)).heap[w.heap.size]? = some (.cells #[.pointer (some ⟨p, 0, none⟩), .pointer (some ⟨q, 0, none⟩)] 71 (0, 0))) := block_at2
  have T2m : Hid (((w.alloc (.cells #[.pointer (some ⟨p, 0, none⟩), .pointer (some ⟨q, 0, none⟩)] 71)).alloc (.cells #[.slice a k cap, .int .i64 x, .int .i64 y] 50)).heap[w.heap.size + 1]? = some (.cells #[.slice a k cap, .int .i64 x, .int .i64 y] 50 (0, 0))) := heap_alloc_at _ _ _ (by simp)
  have HID : Hid (∀ v, Below w.heap.size w v → Calls Tryz.prog 89 #[.pointer (some ⟨p, 0, none⟩), .int .i64 id] v fun e w' => e = .returned (.bool bi) ∧ w' = v) := fun v hv => by
    obtain ⟨ia, ic, hc, _⟩ := (hT.below hv).items
    rw [hbi]; exact hasNumber_any p ss.length ic ia id v hc
  have HES : Hid (∀ v, Below w.heap.size w v → Calls Tryz.prog 91 #[.agg #[.pointer (some ⟨p, 0, none⟩), .pointer (some ⟨q, 0, none⟩)], .agg #[.slice a k cap, .int .i64 x, .int .i64 y], .int .i64 id] v.drew fun e w' => ∃ lb, e = .returned (.func (.func 138) #[] lb) ∧ Below v.heap.size v w' ∧
      Hid (Calls Tryz.prog 90 #[.func (.func 138) #[] lb] w' fun e w'' => e = .returned (.int .i64 (cn : Nat)) ∧ Below w'.heap.size w' w'')) := fun v hv => by
    have hd : Below v.heap.size v v.drew := (Below.refl _ _).drew
    have hvd : Below w.heap.size w v.drew := hv.trans (hd.mono hv.size)
    have := eachSigner_any (some ⟨p, 0, none⟩) q top k cap a l x y id gs v.drew hk (hI.below hvd (Nat.le_refl _)) hw hwi (hG.below hvd)
    rw [← hcn] at this
    exact this.mono fun e w' ⟨lb, h1, h2, h3⟩ => ⟨lb, h1, hd.trans h2, h3⟩
  clear hr hr2 hbi hbh hcn hbx hT hG hI hw hwi
  by_cases h2 : r2 = 0
  · subst h2
    cases bi
    · obtain rfl : r = 3 := by rw [HR.out]; simp
      go_enter Tryz.func40, Tryz.ntmps40
      go_wp2_with (first | (go_at_call 88; (with_reducible refine hrf.mono ?_); clear hrf; rintro e w2 ⟨rfl, hb2⟩; have HB2 : Hid (Below w.heap.size w w2) := HBX.out.trans (hb2.mono HBX.out.size); have HX2 := keepb T1.out hb2; have HR2 := keepb T2m.out hb2; obtain ⟨x0, x1⟩ := cells2 HX2.out; obtain ⟨p0, p1, p2⟩ := cells3 HR2.out; have hid2 := HID.out w2 HB2.out; clear hb2) | (go_at_call 89; (with_reducible refine hid2.mono ?_); clear hid2; rintro e w' ⟨rfl, hw⟩; have hw2 := hw.symm; subst hw2; clear hw))
      go_ret
      exact ⟨rfl, HB2.out⟩
    cases bh
    · obtain rfl : r = 3 := by rw [HR.out]; simp
      go_enter Tryz.func40, Tryz.ntmps40
      go_wp2_with (first | (go_at_call 88; (with_reducible refine hrf.mono ?_); clear hrf; rintro e w2 ⟨rfl, hb2⟩; have HB2 : Hid (Below w.heap.size w w2) := HBX.out.trans (hb2.mono HBX.out.size); have HX2 := keepb T1.out hb2; have HR2 := keepb T2m.out hb2; obtain ⟨x0, x1⟩ := cells2 HX2.out; obtain ⟨p0, p1, p2⟩ := cells3 HR2.out; have hid2 := HID.out w2 HB2.out; clear hb2) | (go_at_call 89; (with_reducible refine hid2.mono ?_); clear hid2; rintro e w' ⟨rfl, hw⟩; have hw2 := hw.symm; subst hw2; clear hw) | (go_at_call 39; (with_reducible refine (hht _).mono ?_); rintro e w' ⟨rfl, hw⟩; have hw2 := hw.symm; subst hw2; clear hw))
      go_ret
      exact ⟨rfl, HB2.out⟩
    have hr3 : r = if h < y then 9 else if (cn : Int) < x then 6 else 0 := by rw [HR.out]; simp
    by_cases hy : h < y
    · obtain rfl : r = 9 := by rw [hr3, if_pos hy]
      clear hr3
      go_enter Tryz.func40, Tryz.ntmps40
      go_wp2_with (first | (go_at_call 88; (with_reducible refine hrf.mono ?_); clear hrf; rintro e w2 ⟨rfl, hb2⟩; have HB2 : Hid (Below w.heap.size w w2) := HBX.out.trans (hb2.mono HBX.out.size); have HX2 := keepb T1.out hb2; have HR2 := keepb T2m.out hb2; obtain ⟨x0, x1⟩ := cells2 HX2.out; obtain ⟨p0, p1, p2⟩ := cells3 HR2.out; have hid2 := HID.out w2 HB2.out; clear hb2) | (go_at_call 89; (with_reducible refine hid2.mono ?_); clear hid2; rintro e w' ⟨rfl, hw⟩; have hw2 := hw.symm; subst hw2; clear hw) | (go_at_call 39; (with_reducible refine (hht _).mono ?_); rintro e w' ⟨rfl, hw⟩; have hw2 := hw.symm; subst hw2; clear hw))
      go_ret
      exact ⟨rfl, HB2.out⟩
    rw [if_neg hy] at hr3
    have HR3 : Hid (r = if (cn : Int) < x then 6 else 0) := hr3
    clear hr3 HR
    go_enter Tryz.func40, Tryz.ntmps40
    go_wp2_with (first | (go_at_call 88; (with_reducible refine hrf.mono ?_); clear hrf; rintro e w2 ⟨rfl, hb2⟩; have HB2 : Hid (Below w.heap.size w w2) := HBX.out.trans (hb2.mono HBX.out.size); have HX2 := keepb T1.out hb2; have HR2 := keepb T2m.out hb2; obtain ⟨x0, x1⟩ := cells2 HX2.out; obtain ⟨p0, p1, p2⟩ := cells3 HR2.out; have hid2 := HID.out w2 HB2.out; clear hb2) | (go_at_call 89; (with_reducible refine hid2.mono ?_); clear hid2; rintro e w' ⟨rfl, hw⟩; have hw2 := hw.symm; subst hw2; clear hw) | (go_at_call 39; (with_reducible refine (hht _).mono ?_); rintro e w' ⟨rfl, hw⟩; have hw2 := hw.symm; subst hw2; clear hw))
    have hl1 := lt_of_block HX2.out
    have hl2 := lt_of_block HR2.out
    have hes := HES.out w2 HB2.out
    go_region_held3 (fun w' => (w'.cell? ⟨w.heap.size, 0, none⟩ = some (.pointer (some ⟨p, 0, none⟩)) ∧ w'.cell? ⟨w.heap.size, 1, none⟩ = some (.pointer (some ⟨q, 0, none⟩))) ∧ w'.cell? ⟨w.heap.size + 1, 0, none⟩ = some (.slice a k cap) ∧ w'.cell? ⟨w.heap.size + 1, 1, none⟩ = some (.int .i64 x) ∧ w'.cell? ⟨w.heap.size + 1, 2, none⟩ = some (.int .i64 y)) (go_keep)
      (first
        | (go_at_call 91; refine hes.mono ?_; rintro e w5 ⟨lb, rfl, hb5, HC5⟩; obtain ⟨z0, z1, z2⟩ := keep3' hl2 hb5 ⟨p0, p1, p2⟩; have z3 := (hb5.cell (p := ⟨w.heap.size, 0, none⟩) hl1).trans x0; have z4 := (hb5.cell (p := ⟨w.heap.size, 1, none⟩) hl1).trans x1)
        | (go_at_call 90; refine HC5.out.mono ?_; rintro e w6 ⟨rfl, hb6⟩; have hs5 := hb5.size; obtain ⟨y0, y1, y2⟩ := keep3' (Nat.lt_of_lt_of_le hl2 hs5) hb6 ⟨z0, z1, z2⟩; have y3 := (hb6.cell (p := ⟨w.heap.size, 0, none⟩) (Nat.lt_of_lt_of_le hl1 hs5)).trans z3; have y4 := (hb6.cell (p := ⟨w.heap.size, 1, none⟩) (Nat.lt_of_lt_of_le hl1 hs5)).trans z4))
    have HB6 : Hid (Below w.heap.size w w6) := (HB2.out.trans (hb5.mono HB2.out.size)).trans (hb6.mono (by have := HB2.out.size; omega))
    by_cases hx : (cn : Int) < x
    · obtain rfl : r = 6 := by rw [HR3.out, if_pos hx]
      go_wp2
      go_ret
      exact ⟨rfl, HB6.out⟩
    · obtain rfl : r = 0 := by rw [HR3.out, if_neg hx]
      go_wp2
      go_ret
      exact ⟨rfl, HB6.out⟩
  · obtain rfl : r = r2 := by rw [HR.out]; simp [h2]
    go_enter Tryz.func40, Tryz.ntmps40
    go_wp2_with (first | (go_at_call 88; (with_reducible refine hrf.mono ?_); clear hrf; rintro e w2 ⟨rfl, hb2⟩; have HB2 : Hid (Below w.heap.size w w2) := HBX.out.trans (hb2.mono HBX.out.size); have HX2 := keepb T1.out hb2; have HR2 := keepb T2m.out hb2; obtain ⟨x0, x1⟩ := cells2 HX2.out; obtain ⟨p0, p1, p2⟩ := cells3 HR2.out; have hid2 := HID.out w2 HB2.out; clear hb2))
    go_ret
    exact ⟨rfl, HB2.out⟩

set_option maxRecDepth 20000 in
set_option maxHeartbeats 2000000 in
theorem iRuleMet_any (n m tc gc k cap : Nat) (ta ga a : Option Addr) (ss : List ByteArray) (gs : List (Int × Int)) (l : List Int) (x y id h : Int) (w : World) (hf : Fine ss gs) (hL : LedAt w ta n ga m ss gs) (hk : k ≤ 1048576) (hI : IAt w a k l) (hw : ∀ k ∈ l, (Lit.int .i64 k).wf = true) (hwi : (Lit.int .i64 id).wf = true) :
    Calls Tryz.prog 12 #[.agg #[.slice ta n tc, .slice ga m gc], .agg #[.slice a k cap, .int .i64 x, .int .i64 y], .int .i64 id, .int .i64 h] w fun e w' => e = .returned (.int .i64 (metR ss gs l x y id h)) ∧ Below w.heap.size w w' := by
  have B0 := LR.start (w := w) (tl := 27) (tr := 50) (ta := ta) (n := n) (tc := tc) (ga := ga) (m := m) (gc := gc) (a := a) (k := k) (cap := cap) (x := x) (y := y)
  have hrl := readLedger_any n m tc gc ta ga ss gs _ hf.s hf.g (hL.s.below B0.bel (Nat.le_refl _)) (hL.g.below B0.bel (Nat.le_refl _))
  obtain ⟨r, hr⟩ : ∃ r, r = metR ss gs l x y id h := ⟨_, rfl⟩
  obtain ⟨r1, hr1⟩ : ∃ r, r = flt ss gs := ⟨_, rfl⟩
  obtain ⟨r4, hr4⟩ : ∃ r, r = metIn ss gs l x y id h := ⟨_, rfl⟩
  have HR : Hid (r = if r1 ≠ 0 then r1 else r4) := by show _ = _; rw [hr, hr1, hr4]; rfl
  rw [← hr]
  have HIN : Hid (∀ v p q, LR w v 27 50 ta n tc ga m gc a k cap x y → (∃ base, TwS v base p ss) ∧ (∃ top, TwG v top q gs) → Calls Tryz.prog 40 #[.agg #[.pointer (some ⟨p, 0, none⟩), .pointer (some ⟨q, 0, none⟩)], .agg #[.slice a k cap, .int .i64 x, .int .i64 y], .int .i64 id, .int .i64 h] v fun e w' => e = .returned (.int .i64 r4) ∧ Below v.heap.size v w') := fun v p q hv ⟨⟨base, h1⟩, top, h2⟩ => by
    rw [hr4]
    exact ruleMetIn_any p q base top k cap a ss gs l x y id h v h1 h2 hk (hI.below hv.bel (Nat.le_refl _)) hw hwi
  have HB0 : Hid (LR w ((w.alloc (.cells #[.slice ta n tc, .slice ga m gc] 27)).alloc (.cells #[.slice a k cap, .int .i64 x, .int .i64 y] 50)) 27 50 ta n tc ga m gc a k cap x y) := B0
  have hrl2 := hrl.mono fun e w' (hq : RL ss gs _ w' e) => show Below ((w.alloc (.cells #[.slice ta n tc, .slice ga m gc] 27)).alloc (.cells #[.slice a k cap, .int .i64 x, .int .i64 y] 50)).heap.size ((w.alloc (.cells #[.slice ta n tc, .slice ga m gc] 27)).alloc (.cells #[.slice a k cap, .int .i64 x, .int .i64 y] 50)) w' ∧
      ((r1 = 0 ∧ ∃ p q, e = .returned (.tuple #[.agg #[.pointer (some ⟨p, 0, none⟩), .pointer (some ⟨q, 0, none⟩)], .int .i64 0]) ∧ Hid ((∃ base, TwS w' base p ss) ∧ ∃ top, TwG w' top q gs)) ∨ (r1 ≠ 0 ∧ e = .returned (.tuple #[.agg #[.pointer none, .pointer none], .int .i64 r1]))) by
    rw [hr1]
    rcases hq with ⟨hbl, ⟨hz, p, q, top, he, h1, h2, h3, h4⟩ | hh⟩
    · exact ⟨hbl, .inl ⟨hz, p, q, he, ⟨_, h1⟩, top, h3⟩⟩
    · exact ⟨hbl, .inr hh⟩
  clear hr hr1 hr4 hrl B0 hL hI hf hw hwi
  by_cases h1 : r1 = 0
  · subst h1
    obtain rfl : r = r4 := by rw [HR.out]; simp
    have hrl3 := hrl2.mono fun e w' hq => show ∃ p q, e = .returned (.tuple #[.agg #[.pointer (some ⟨p, 0, none⟩), .pointer (some ⟨q, 0, none⟩)], .int .i64 0]) ∧ Hid ((∃ base, TwS w' base p ss) ∧ ∃ top, TwG w' top q gs) ∧ Below ((w.alloc (.cells #[.slice ta n tc, .slice ga m gc] 27)).alloc (.cells #[.slice a k cap, .int .i64 x, .int .i64 y] 50)).heap.size ((w.alloc (.cells #[.slice ta n tc, .slice ga m gc] 27)).alloc (.cells #[.slice a k cap, .int .i64 x, .int .i64 y] 50)) w' by
      rcases hq with ⟨hbl, ⟨_, p, q, he, h3⟩ | ⟨h0, _⟩⟩
      · exact ⟨p, q, he, h3, hbl⟩
      · exact absurd rfl h0
    clear hrl2
    go_enter Tryz.func12, Tryz.ntmps12
    go_wp2_with (first
      | (go_at_call 23; refine hrl3.mono ?_; clear hrl3; rintro e w1 ⟨p, q, rfl, HT1, hb1⟩; have hbb := below_box (w := w1) (.cells #[.pointer (some ⟨p, 0, none⟩), .pointer (some ⟨q, 0, none⟩)] 71); have HB1 : Hid (LR w (w1.alloc (.cells #[.pointer (some ⟨p, 0, none⟩), .pointer (some ⟨q, 0, none⟩)] 71)) 27 50 ta n tc ga m gc a k cap x y) := (HB0.out.step hb1).step hbb; have HT2 : Hid ((∃ base, TwS (w1.alloc (.cells #[.pointer (some ⟨p, 0, none⟩), .pointer (some ⟨q, 0, none⟩)] 71)) base p ss) ∧ ∃ top, TwG (w1.alloc (.cells #[.pointer (some ⟨p, 0, none⟩), .pointer (some ⟨q, 0, none⟩)] 71)) top q gs) := ⟨⟨_, HT1.out.1.choose_spec.below hbb⟩, _, HT1.out.2.choose_spec.below hbb⟩; obtain ⟨p0, p1, p2⟩ := cells3 HB1.out.rul; have hmi := HIN.out _ p q HB1.out HT2.out; clear hb1 hbb)
      | (go_at_call 40; (with_reducible refine hmi.mono ?_); clear hmi; rintro e w2 ⟨rfl, hb2⟩; have HB2 : Hid (LR w w2 27 50 ta n tc ga m gc a k cap x y) := HB1.out.step hb2; clear hb2))
    go_ret
    exact ⟨rfl, HB2.out.bel⟩
  · obtain rfl : r = r1 := by rw [HR.out]; simp [h1]
    have hrl3 := hrl2.mono fun e w' hq => show e = .returned (.tuple #[.agg #[.pointer none, .pointer none], .int .i64 r]) ∧ Below ((w.alloc (.cells #[.slice ta n tc, .slice ga m gc] 27)).alloc (.cells #[.slice a k cap, .int .i64 x, .int .i64 y] 50)).heap.size ((w.alloc (.cells #[.slice ta n tc, .slice ga m gc] 27)).alloc (.cells #[.slice a k cap, .int .i64 x, .int .i64 y] 50)) w' by
      rcases hq with ⟨hbl, ⟨h0, _⟩ | ⟨_, he⟩⟩
      · exact absurd h0 h1
      · exact ⟨he, hbl⟩
    clear hrl2
    go_enter Tryz.func12, Tryz.ntmps12
    go_wp2_with (first
      | (go_at_call 23; refine hrl3.mono ?_; clear hrl3; rintro e w1 ⟨rfl, hb1⟩; have HB1 : Hid (LR w w1 27 50 ta n tc ga m gc a k cap x y) := HB0.out.step hb1; clear hb1))
    go_ret
    exact ⟨rfl, (HB1.out.step (below_box _)).bel⟩

end Go.Proofs.YtagokfoimokniaaGreatDoor
