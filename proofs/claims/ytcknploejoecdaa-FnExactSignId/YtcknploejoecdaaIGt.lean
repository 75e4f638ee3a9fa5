/- What the program's SignId answers. -/
import Derived.Test.YtcknploejoecdaaSg
import Derived.Test.YtcknploejoecdaaINt
import Derived.Test.YtcknploejoecdaaTwGF
namespace Go.Proofs.Ytcknploejoecdaa
open Go.RowKit Go.Maps Go.WideMaps

/-- The program's book in block K, the signature behind it, the two tables, and the result under way. -/
structure Bs (w V : World) (K p q top : Nat) (ss : List ByteArray) (gs : List (Int × Int)) (a0 a1 : Value) (a b : Int) : Prop where
  r : Box4 w V a0 a1 27
  k : V.heap[K]? = some (.cells #[.pointer (some ⟨p, 0, none⟩), .pointer (some ⟨q, 0, none⟩)] 85 (0, 0))
  x : V.heap[K + 1]? = some (.cells #[.int .i64 a, .int .i64 b] 100 (0, 0))
  s : TwS V (w.heap.size + 2) p ss
  st : TopS V p top
  g : TwG V top q gs
  gt : TopG V q K
  tl : w.heap.size + 2 ≤ top ∧ top ≤ K

section
variable {w V V' w2 : World} {K p q top : Nat} {ss : List ByteArray} {gs gs' : List (Int × Int)} {a0 a1 : Value} {a b : Int} {n m : Nat}
theorem Bs.step (h : Bs w V K p q top ss gs a0 a1 a b) (hb : Below V.heap.size V V') : Bs w V' K p q top ss gs a0 a1 a b := by
  have hpl : p < V.heap.size := by obtain ⟨iv, B, hp, _⟩ := h.s; exact lt_of_block hp
  have hql : q < V.heap.size := by obtain ⟨iv, B, hp, _⟩ := h.g; exact lt_of_block hp
  exact ⟨(h.r.step hb).out, (keepb h.k hb).out, (keepb h.x hb).out, h.s.below hb, h.st.of_block (hb.block p hpl), h.g.below hb, h.gt.of_block (hb.block q hql), h.tl⟩
theorem Bs.start (hB : Box4 w w2 a0 a1 27) (hT : TwS w2 (w.heap.size + 2) p ss ∧ TopS w2 p top ∧ TwG w2 top q gs ∧ w.heap.size + 2 ≤ top) :
    Hid (Bs w ((w2.alloc (.cells #[.pointer (some ⟨p, 0, none⟩), .pointer (some ⟨q, 0, none⟩)] 85)).alloc (.cells #[.int .i64 a, .int .i64 b] 100)) w2.heap.size p q top ss gs a0 a1 a b) := by
  have hpl : p < w2.heap.size := by obtain ⟨iv, B, hp, _⟩ := hT.1; exact lt_of_block hp
  have hql : q < w2.heap.size := by obtain ⟨iv, B, hp, _⟩ := hT.2.2.1; exact lt_of_block hp
  have htq : top ≤ q := by obtain ⟨iv, B, hp, hb, _⟩ := hT.2.2.1; exact hb
  have hb : Below w2.heap.size w2 ((w2.alloc (.cells #[.pointer (some ⟨p, 0, none⟩), .pointer (some ⟨q, 0, none⟩)] 85)).alloc (.cells #[.int .i64 a, .int .i64 b] 100)) := below_box2 _ _
  exact ⟨(hB.step hb).out, block_at2, heap_at _ _ _ (by simp), hT.1.below hb, hT.2.1.of_block (hb.block p hpl), hT.2.2.1.below hb, hT.2.2.1.top.of_block (hb.block q hql), hT.2.2.2, by omega⟩
theorem Bs.bk (h : Bs w V K p q top ss gs a0 a1 a b) : Hid (Bk w V K p q ss gs a0 a1) := ⟨h.r, h.k, h.s, h.g.mono h.tl.1⟩
theorem Bs.add (h : Bs w V K p q top ss gs a0 a1 a b) (ht : TwG V' top q gs') (hc : Chg V V' top K) : Hid (Bk w V' K p q ss gs' a0 a1) := by
  have := h.tl
  exact ⟨⟨hc.keep h.r.1 (.inl (by omega)), h.r.2.1.trans (hc.below (by omega) h.r.2.1.size), hc.keep h.r.2.2 (.inl (by omega))⟩, hc.keep h.k (.inr (Nat.le_refl _)), h.s.chgT h.st hc, ht.mono h.tl.1⟩
theorem Bk.tailQ (h : Bk w V K p q ss gs a0 a1) (hn : ss.length = n) (hm : gs.length = m) :
    ∃ ia ic ja jc, Hid (Calls Try.prog 63 #[.agg #[.pointer (some ⟨p, 0, none⟩), .pointer (some ⟨q, 0, none⟩)]] V fun e w' => e = .returned (.agg #[.slice ia n ic, .slice ja m jc]) ∧ Below V.heap.size V w') ∧
      Hid (V.ownsRow (w.heap.size + 2) 9 1 (.slice ia n ic) n (ss.map Value.string) ∧ V.ownsRow (w.heap.size + 2) 100 2 (.slice ja m jc) m (gcells gs)) := by
  obtain ⟨ia, ic, hi, hip, HI⟩ := h.s.rows hn
  obtain ⟨ja, jc, hj, hjp, HJ⟩ := h.g.rows hm
  exact ⟨ia, ic, ja, jc, bookL_any p q n m ic jc ia ja V hip hjp hi hj, HI.out, HJ.out⟩
end

theorem memB_num {gs : List (Int × Int)} {x : Int × Int} : memB gs x = (num gs x != 0) := rfl

set_option maxRecDepth 20000 in
set_option maxHeartbeats 2000000 in
theorem iSignId_any (n m tc gc : Nat) (ta ga : Option Addr) (ss : List ByteArray) (gs : List (Int × Int)) (a b : Int) (w : World) (ha : (Lit.int .i64 a).wf = true) (hb : (Lit.int .i64 b).wf = true) (hf : Fine ss gs) (h : LedAt w ta n ga m ss gs) :
    Calls Try.prog 23 #[.agg #[.slice ta n tc, .slice ga m gc], .int .i64 a, .int .i64 b] w fun e w' => OutL w w' e (signR ss gs a b) := by
  obtain ⟨c, hc⟩ : ∃ c, c = flt ss gs := ⟨_, rfl⟩
  have HA : Hid ((Lit.int .i64 a).wf = true) := ha
  have HBW : Hid ((Lit.int .i64 b).wf = true) := hb
  have HN : Hid (ss.length = n) := h.s.1
  have HM : Hid (gs.length = m) := h.g.1
  clear ha hb
  by_cases hcz : c = 0
  · subst hcz
    have hrd := read4_ok (tc := tc) (gc := gc) hf h hc
    have hlen := flt_le hc
    rw [HN.out, HM.out] at hlen
    have h120 := hlen.2
    clear hlen h hf
    obtain ⟨ka, hka⟩ : ∃ ka, ka = inB a 1 999 := ⟨_, rfl⟩
    obtain ⟨kb, hkb⟩ : ∃ kb, kb = inB b 1 n := ⟨_, rfl⟩
    have hkey : ∀ v, Calls Try.prog 70 #[.int .i64 a] v fun e w' => e = .returned (.bool ka) ∧ w' = v := fun v => by rw [hka]; exact isKey_any a v
    have hhas : ∀ p v ia ic, v.cell? ⟨p, 0, none⟩ = some (.slice ia n ic) → Calls Try.prog 67 #[.pointer (some ⟨p, 0, none⟩), .int .i64 b] v fun e w' => e = .returned (.bool kb) ∧ w' = v := fun p v ia ic hv => by rw [hkb]; exact hasNumber_any p n ic ia b v hv
    have HHAS : Hid (∀ p v ia ic, v.cell? ⟨p, 0, none⟩ = some (.slice ia n ic) → Calls Try.prog 67 #[.pointer (some ⟨p, 0, none⟩), .int .i64 b] v fun e w' => e = .returned (.bool kb) ∧ w' = v) := hhas
    clear hhas
    by_cases hs : ka = false ∨ kb = false
    · have hr := signR_range (a := a) (b := b) HN.out hc (by rw [← hka, ← hkb]; exact hs)
      rw [hr]
      clear hc hr hka hkb
      have hs2 : ka = false ∨ ka = true ∧ kb = false := by rcases hs with h | h <;> cases ka <;> simp_all
      clear hs
      rcases hs2 with rfl | ⟨rfl, rfl⟩
      all_goals
        go_enter Try.func23, Try.ntmps23
        go_wp2_with (first
          | (go_at_call 58; refine hrd.mono ?_; rintro e w2 ⟨p, q, top, rfl, HB, HT⟩; obtain ⟨K0, K1, K2, K3, K4, K5, K6, K7⟩ := cells4 (HB.out.step (below_box (.cells #[.pointer (some ⟨p, 0, none⟩), .pointer (some ⟨q, 0, none⟩)] 85))).out.1; obtain ⟨ia, ic, hI, HSA⟩ := tw_items (o := .cells #[.pointer (some ⟨p, 0, none⟩), .pointer (some ⟨q, 0, none⟩)] 85) HN.out HT.out.1; have hhn := HHAS.out _ _ _ _ hI; clear hI)
          | (go_at_call 70; refine (hkey _).mono ?_; rintro e w' ⟨rfl, hw⟩; subst hw)
          | (go_at_call 67; refine hhn.mono ?_; rintro e w' ⟨rfl, hw⟩; subst hw))
        obtain ⟨s0, s1, s2, s3⟩ := four_set (HB.out.step (below_box (.cells #[.pointer (some ⟨p, 0, none⟩), .pointer (some ⟨q, 0, none⟩)] 85))).out.1 (.int .i64 3) (.int .i64 0) (.slice none 0 0) (.slice none 0 0)
        exact bodyPost_ret (v := .agg #[.int .i64 3, .int .i64 0, .slice none 0 0, .slice none 0 0]) (by simp [results, Try.results23, go_sem, s0, s1, s2, s3]) rfl (OutL.empty (below_res4 (HB.out.step (below_box _)).out.2.1 _ _ _ _))
    · obtain rfl : ka = true := by cases ka <;> simp_all
      obtain rfl : kb = true := by cases kb <;> simp_all
      obtain ⟨k, hk⟩ : ∃ k, k = num gs (a, b) := ⟨_, rfl⟩
      have HK : Hid (num gs (a, b) = k) := hk.symm
      by_cases hk0 : k = 0
      · have hmem : false = memB gs (a, b) := by rw [memB_num, ← hk, hk0]; rfl
        have HK1 : Hid (num gs (a, b) = 0) := by rw [← hk]; exact hk0
        subst hk0
        by_cases hful : 120 ≤ m
        · rw [signR_full HN.out HM.out hc hka.symm hkb.symm hmem hful]
          clear hc hk hmem hka hkb hs
          go_enter Try.func23, Try.ntmps23
          go_wp2_with (first
            | (go_at_call 58; refine hrd.mono ?_; rintro e w2 ⟨p, q, top, rfl, HB, HT⟩; obtain ⟨ia, ic, hI, HSA⟩ := tw_items (o := .cells #[.pointer (some ⟨p, 0, none⟩), .pointer (some ⟨q, 0, none⟩)] 85) HN.out HT.out.1; have hhn := HHAS.out _ _ _ _ hI; clear hI; have HS := Bs.start (a := a) (b := b) HB.out HT.out; obtain ⟨t0, t1⟩ := cells2 HS.out.k; obtain ⟨x0, x1⟩ := cells2 HS.out.x; have hnb := numG_tw HA.out HBW.out HS.out.g; rw [HK.out] at hnb)
            | (go_at_call 70; refine (hkey _).mono ?_; rintro e w' ⟨rfl, hw⟩; subst hw)
            | (go_at_call 67; refine hhn.mono ?_; rintro e w' ⟨rfl, hw⟩; subst hw)
            | (go_at_call 71; refine hnb.mono ?_; rintro e w3 ⟨rfl, hb3⟩; have HS3 : Hid (Bs w w3 w2.heap.size p q top ss gs (.slice ta n tc) (.slice ga m gc) a b) := HS.out.step hb3; clear t0 t1 x0 x1 hb3; obtain ⟨t0, t1⟩ := cells2 HS3.out.k; obtain ⟨x0, x1⟩ := cells2 HS3.out.x; obtain ⟨q0, q1, q2, q3, q4, q5, q6, q7⟩ := cells4 HS3.out.r.1; obtain ⟨ja, jc, hJ, _, _⟩ := HS3.out.g.rows HM.out; have hct := countG_any q m jc ja _ hJ; clear hJ)
            | (go_at_call 72; refine hct.mono ?_; rintro e w' ⟨rfl, hw⟩; have hw2 := hw.symm; subst hw2))
          obtain ⟨s0, s1, s2, s3⟩ := four_set HS3.out.r.1 (.int .i64 2) (.int .i64 0) (.slice none 0 0) (.slice none 0 0)
          exact bodyPost_ret (v := .agg #[.int .i64 2, .int .i64 0, .slice none 0 0, .slice none 0 0]) (by simp [results, Try.results23, go_sem, s0, s1, s2, s3]) rfl (OutL.empty (below_res4 HS3.out.r.2.1 _ _ _ _))
        · rw [signR_new HN.out HM.out hc hka.symm hkb.symm hmem hful]
          have hful' : (m : Int) < 120 := by omega
          have HSL : Hid (gs.length ≤ 200) := by show _ ≤ _; rw [HM.out]; omega
          have HE1 : Hid ((gs ++ [(a, b)]).length = m + 1) := by show _ = _; simp [HM.out]
          clear hc hk hmem hka hkb hs hful
          go_enter Try.func23, Try.ntmps23
          go_wp2_with (first
            | (go_at_call 58; refine hrd.mono ?_; rintro e w2 ⟨p, q, top, rfl, HB, HT⟩; obtain ⟨ia, ic, hI, HSA⟩ := tw_items (o := .cells #[.pointer (some ⟨p, 0, none⟩), .pointer (some ⟨q, 0, none⟩)] 85) HN.out HT.out.1; have hhn := HHAS.out _ _ _ _ hI; clear hI; have HS := Bs.start (a := a) (b := b) HB.out HT.out; obtain ⟨t0, t1⟩ := cells2 HS.out.k; obtain ⟨x0, x1⟩ := cells2 HS.out.x; have hnb := numG_tw HA.out HBW.out HS.out.g; rw [HK.out] at hnb)
            | (go_at_call 70; refine (hkey _).mono ?_; rintro e w' ⟨rfl, hw⟩; subst hw)
            | (go_at_call 67; refine hhn.mono ?_; rintro e w' ⟨rfl, hw⟩; subst hw)
            | (go_at_call 71; refine hnb.mono ?_; rintro e w3 ⟨rfl, hb3⟩; have HS3 : Hid (Bs w w3 w2.heap.size p q top ss gs (.slice ta n tc) (.slice ga m gc) a b) := HS.out.step hb3; clear t0 t1 x0 x1 hb3; obtain ⟨t0, t1⟩ := cells2 HS3.out.k; obtain ⟨x0, x1⟩ := cells2 HS3.out.x; obtain ⟨ja, jc, hJ, _, _⟩ := HS3.out.g.rows HM.out; have hct := countG_any q m jc ja _ hJ; clear hJ)
            | (go_at_call 72; refine hct.mono ?_; rintro e w' ⟨rfl, hw⟩; have hw2 := hw.symm; subst hw2)
            | (go_at_call 73; refine (addG_frame q top gs a b _ HSL.out HA.out HBW.out HK1.out (by have := HS3.out.tl; have := lt_of_block HS3.out.k; omega) HS3.out.g).mono ?_; rintro e w4 ⟨rfl, htw4, hb4, hch4⟩; have HBK : Hid (Bk w w4 w2.heap.size p q ss (gs ++ [(a, b)]) (.slice ta n tc) (.slice ga m gc)) := HS3.out.add htw4 (hch4 _ HS3.out.gt); clear htw4 hb4 hch4 t0 t1 x0 x1; obtain ⟨t0, t1⟩ := cells2 HBK.out.k; obtain ⟨ia2, ic2, ja2, jc2, HLD, HRW⟩ := HBK.out.tailQ HN.out HE1.out)
            | (go_at_call 63; refine HLD.out.mono ?_; rintro e w5 ⟨rfl, hb5⟩; obtain ⟨J0, J1, J2, J3, J4, J5, J6, J7⟩ := cells4 (HBK.out.r.step hb5).out.1))
          obtain ⟨s0, s1, s2, s3⟩ := four_set (HBK.out.r.step hb5).out.1 (.int .i64 0) (.int .i64 b) (.slice ia2 n ic2) (.slice ja2 (m + 1) jc2)
          exact bodyPost_ret (v := .agg #[.int .i64 0, .int .i64 b, .slice ia2 n ic2, .slice ja2 (m + 1) jc2]) (by simp [results, Try.results23, go_sem, s0, s1, s2, s3]) rfl (HBK.out.out HN.out HE1.out hb5 HRW.out b _ _ _ _)
      · have hmem : true = memB gs (a, b) := by rw [memB_num, ← hk]; simp [hk0]
        rw [signR_old HN.out hc hka.symm hkb.symm hmem]
        have hki : (k : Int) ≠ 0 := by omega
        have HK0 : Hid (¬ num gs (a, b) = 0) := by rw [← hk]; exact hk0
        clear hc hk hk0 hmem hka hkb hs
        go_enter Try.func23, Try.ntmps23
        go_wp2_with (first
          | (go_at_call 58; refine hrd.mono ?_; rintro e w2 ⟨p, q, top, rfl, HB, HT⟩; obtain ⟨ia, ic, hI, HSA⟩ := tw_items (o := .cells #[.pointer (some ⟨p, 0, none⟩), .pointer (some ⟨q, 0, none⟩)] 85) HN.out HT.out.1; have hhn := HHAS.out _ _ _ _ hI; clear hI; have HS := Bs.start (a := a) (b := b) HB.out HT.out; obtain ⟨t0, t1⟩ := cells2 HS.out.k; obtain ⟨x0, x1⟩ := cells2 HS.out.x; have hnb := numG_tw HA.out HBW.out HS.out.g; rw [HK.out] at hnb)
          | (go_at_call 70; refine (hkey _).mono ?_; rintro e w' ⟨rfl, hw⟩; subst hw)
          | (go_at_call 67; refine hhn.mono ?_; rintro e w' ⟨rfl, hw⟩; subst hw)
          | (go_at_call 71; refine hnb.mono ?_; rintro e w3 ⟨rfl, hb3⟩; have HS3 : Hid (Bs w w3 w2.heap.size p q top ss gs (.slice ta n tc) (.slice ga m gc) a b) := HS.out.step hb3; clear t0 t1 x0 x1 hb3; obtain ⟨t0, t1⟩ := cells2 HS3.out.k; obtain ⟨x0, x1⟩ := cells2 HS3.out.x)
          | (go_at_call 73; refine (addG_old q top gs a b _ HA.out HBW.out HK0.out HS3.out.g).mono ?_; rintro e w4 ⟨rfl, hb4⟩; have HBK : Hid (Bk w w4 w2.heap.size p q ss gs (.slice ta n tc) (.slice ga m gc)) := (HS3.out.step hb4).bk.out; clear hb4 t0 t1 x0 x1; obtain ⟨t0, t1⟩ := cells2 HBK.out.k; obtain ⟨ia2, ic2, ja2, jc2, HLD, HRW⟩ := HBK.out.tailQ HN.out HM.out)
          | (go_at_call 63; refine HLD.out.mono ?_; rintro e w5 ⟨rfl, hb5⟩; obtain ⟨J0, J1, J2, J3, J4, J5, J6, J7⟩ := cells4 (HBK.out.r.step hb5).out.1))
        obtain ⟨s0, s1, s2, s3⟩ := four_set (HBK.out.r.step hb5).out.1 (.int .i64 0) (.int .i64 b) (.slice ia2 n ic2) (.slice ja2 m jc2)
        exact bodyPost_ret (v := .agg #[.int .i64 0, .int .i64 b, .slice ia2 n ic2, .slice ja2 m jc2]) (by simp [results, Try.results23, go_sem, s0, s1, s2, s3]) rfl (HBK.out.out HN.out HM.out hb5 HRW.out b _ _ _ _)
  · have hrd := read4_bad (tc := tc) (gc := gc) hf h hc hcz
    rw [signR_bad hc hcz]
    clear hc h hf
    go_enter Try.func23, Try.ntmps23
    go_wp2_with (first
      | (go_at_call 58; refine hrd.mono ?_; rintro e w2 ⟨rfl, HB⟩; obtain ⟨K0, K1, K2, K3, K4, K5, K6, K7⟩ := cells4 (HB.out.step (below_box (.cells #[.pointer none, .pointer none] 85))).out.1))
    obtain ⟨s0, s1, s2, s3⟩ := four_set (HB.out.step (below_box (.cells #[.pointer none, .pointer none] 85))).out.1 (.int .i64 c) (.int .i64 0) (.slice none 0 0) (.slice none 0 0)
    exact bodyPost_ret (v := .agg #[.int .i64 c, .int .i64 0, .slice none 0 0, .slice none 0 0]) (by simp [results, Try.results23, go_sem, s0, s1, s2, s3]) rfl (OutL.empty (below_res4 (HB.out.step (below_box _)).out.2.1 _ _ _ _))

end Go.Proofs.Ytcknploejoecdaa
