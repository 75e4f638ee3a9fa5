/- What the program's NoteText answers. -/
import Derived.Test.YtcknploejoecdaaTwSF
namespace Go.Proofs.Ytcknploejoecdaa
open Go.RowKit Go.Maps Go.WideMaps

/-- The program's reading of a ledger that lies boxed, a result of four cells behind it: where it has no fault. -/
theorem read4_ok {w : World} {n m tc gc : Nat} {ta ga : Option Addr} {ss : List ByteArray} {gs : List (Int × Int)} (hf : Fine ss gs) (h : LedAt w ta n ga m ss gs) (h0 : 0 = flt ss gs) :
    Calls Try.prog 58 #[.agg #[.slice ta n tc, .slice ga m gc]] ((w.alloc (.cells #[.slice ta n tc, .slice ga m gc] 27)).alloc (.cells #[.int .i64 0, .int .i64 0, .slice none 0 0, .slice none 0 0] 31)) fun e w' => ∃ p q top, e = .returned (.tuple #[.agg #[.pointer (some ⟨p, 0, none⟩), .pointer (some ⟨q, 0, none⟩)], .int .i64 0]) ∧
      Hid (Box4 w w' (.slice ta n tc) (.slice ga m gc) 27) ∧ Hid (TwS w' (w.heap.size + 2) p ss ∧ TopS w' p top ∧ TwG w' top q gs ∧ w.heap.size + 2 ≤ top) := by
  have hb : Below w.heap.size w ((w.alloc (.cells #[.slice ta n tc, .slice ga m gc] 27)).alloc (.cells #[.int .i64 0, .int .i64 0, .slice none 0 0, .slice none 0 0] 31)) := below_box2 _ _
  refine (readLedger_any n m tc gc ta ga ss gs _ hf.s hf.g (h.s.below hb (Nat.le_refl _)) (h.g.below hb (Nat.le_refl _))).mono fun e w' hr => ?_
  rcases hr with ⟨hbl, ⟨_, p, q, top, he, h1, h2, h3, h4⟩ | ⟨hn, _⟩⟩
  · have hs : ((w.alloc (.cells #[.slice ta n tc, .slice ga m gc] 27)).alloc (.cells #[.int .i64 0, .int .i64 0, .slice none 0 0, .slice none 0 0] 31)).heap.size = w.heap.size + 2 := by simp
    rw [hs] at h1 h4
    exact ⟨p, q, top, he, Box4.start hbl, h1, h2, h3, h4⟩
  · exact absurd h0.symm hn

theorem read4_bad {w : World} {n m tc gc : Nat} {ta ga : Option Addr} {ss : List ByteArray} {gs : List (Int × Int)} {c : Int} (hf : Fine ss gs) (h : LedAt w ta n ga m ss gs) (hc : c = flt ss gs) (h0 : ¬ c = 0) :
    Calls Try.prog 58 #[.agg #[.slice ta n tc, .slice ga m gc]] ((w.alloc (.cells #[.slice ta n tc, .slice ga m gc] 27)).alloc (.cells #[.int .i64 0, .int .i64 0, .slice none 0 0, .slice none 0 0] 31)) fun e w' => e = .returned (.tuple #[.agg #[.pointer none, .pointer none], .int .i64 c]) ∧ Hid (Box4 w w' (.slice ta n tc) (.slice ga m gc) 27) := by
  have hb : Below w.heap.size w ((w.alloc (.cells #[.slice ta n tc, .slice ga m gc] 27)).alloc (.cells #[.int .i64 0, .int .i64 0, .slice none 0 0, .slice none 0 0] 31)) := below_box2 _ _
  refine (readLedger_any n m tc gc ta ga ss gs _ hf.s hf.g (h.s.below hb (Nat.le_refl _)) (h.g.below hb (Nat.le_refl _))).mono fun e w' hr => ?_
  rcases hr with ⟨hbl, ⟨hn, _⟩ | ⟨_, he⟩⟩
  · exact absurd (hc.trans hn) h0
  · exact ⟨by rw [hc]; exact he, Box4.start hbl⟩

/-- The program's book in block K, its two tables, and the result under way. -/
structure Bk (w V : World) (K p q : Nat) (ss : List ByteArray) (gs : List (Int × Int)) (a0 a1 : Value) : Prop where
  r : Box4 w V a0 a1 27
  k : V.heap[K]? = some (.cells #[.pointer (some ⟨p, 0, none⟩), .pointer (some ⟨q, 0, none⟩)] 85 (0, 0))
  s : TwS V (w.heap.size + 2) p ss
  g : TwG V (w.heap.size + 2) q gs

theorem Bk.step {w V V' : World} {K p q : Nat} {ss : List ByteArray} {gs : List (Int × Int)} {a0 a1 : Value} (h : Bk w V K p q ss gs a0 a1) (hb : Below V.heap.size V V') : Bk w V' K p q ss gs a0 a1 :=
  ⟨(h.r.step hb).out, (keepb h.k hb).out, h.s.below hb, h.g.below hb⟩

theorem Bk.tail {w V : World} {K p q : Nat} {ss : List ByteArray} {gs : List (Int × Int)} {a0 a1 : Value} {n m : Nat} (h : Bk w V K p q ss gs a0 a1) (hn : ss.length = n) (hm : gs.length = m) :
    ∃ ia ic ja jc, Hid (Calls Try.prog 63 #[.agg #[.pointer (some ⟨p, 0, none⟩), .pointer (some ⟨q, 0, none⟩)]] V.drew fun e w' => e = .returned (.agg #[.slice ia n ic, .slice ja m jc]) ∧ Below V.heap.size V w') ∧
      Hid (V.ownsRow (w.heap.size + 2) 9 1 (.slice ia n ic) n (ss.map Value.string) ∧ V.ownsRow (w.heap.size + 2) 100 2 (.slice ja m jc) m (gcells gs)) := by
  obtain ⟨ia, ic, hi, hip, HI⟩ := h.s.rows hn
  obtain ⟨ja, jc, hj, hjp, HJ⟩ := h.g.rows hm
  refine ⟨ia, ic, ja, jc, ?_, HI.out, HJ.out⟩
  exact (bookL_any p q n m ic jc ia ja V.drew hip hjp hi hj).mono fun e w' hr => ⟨hr.1, (Below.refl _ _).drew.trans hr.2⟩

/-- What the end of NoteText and SignId leaves. -/
theorem Bk.out {w V V' : World} {K p q : Nat} {ss : List ByteArray} {gs : List (Int × Int)} {a0 a1 : Value} {n m ic jc : Nat} {ia ja : Option Addr} (h : Bk w V K p q ss gs a0 a1) (hn : ss.length = n) (hm : gs.length = m) (hb : Below V.heap.size V V')
    (hr : V.ownsRow (w.heap.size + 2) 9 1 (.slice ia n ic) n (ss.map Value.string) ∧ V.ownsRow (w.heap.size + 2) 100 2 (.slice ja m jc) m (gcells gs)) (i : Int) (v0 v1 v2 v3 : Value) :
    OutL w ((((V'.setCell ⟨w.heap.size + 1, 0, none⟩ v0).setCell ⟨w.heap.size + 1, 1, none⟩ v1).setCell ⟨w.heap.size + 1, 2, none⟩ v2).setCell ⟨w.heap.size + 1, 3, none⟩ v3) (.returned (.agg #[.int .i64 0, .int .i64 i, .slice ia n ic, .slice ja m jc])) ⟨0, i, ss, gs⟩ := by
  subst hn hm
  have r1 := hr.1.kept (grown_of_below hb) (by cases Value.ownBlock (.slice ia ss.length ic) <;> simp)
  have r2 := hr.2.kept (grown_of_below hb) (by cases Value.ownBlock (.slice ja gs.length jc) <;> simp)
  exact ⟨below_res4 (h.r.step hb).out.2.1 _ _ _ _, ia, ic, ja, jc, rfl, row_res4 r1 (by omega) (by omega) _ _ _ _, row_res4 r2 (by omega) (by omega) _ _ _ _⟩

theorem num_self {l : List ByteArray} {x : ByteArray} (h : num l x = 0) : num (l ++ [x]) x = l.length + 1 := by rw [num_snoc l x x ((num_zero l x).1 h), if_pos rfl]

theorem k4 {W : World} {b c : Nat} {v0 v1 v2 v3 : Value} (h : c ≠ b) : ((((W.setCell ⟨b, 0, none⟩ v0).setCell ⟨b, 1, none⟩ v1).setCell ⟨b, 2, none⟩ v2).setCell ⟨b, 3, none⟩ v3).heap[c]? = W.heap[c]? :=
  (Below.heap_setCell _ ⟨b, 3, none⟩ _ c h).trans ((Below.heap_setCell _ ⟨b, 2, none⟩ _ c h).trans ((Below.heap_setCell _ ⟨b, 1, none⟩ _ c h).trans (Below.heap_setCell _ ⟨b, 0, none⟩ _ c h)))

theorem bk_new {w w2 w3 : World} {p q top : Nat} {ss ss' : List ByteArray} {gs : List (Int × Int)} {a0 a1 : Value} (h : Bk w (w2.alloc (.cells #[.pointer (some ⟨p, 0, none⟩), .pointer (some ⟨q, 0, none⟩)] 85)) w2.heap.size p q ss gs a0 a1)
    (hT : TwS w2 (w.heap.size + 2) p ss ∧ TopS w2 p top ∧ TwG w2 top q gs ∧ w.heap.size + 2 ≤ top) (htw : TwS w3 (w.heap.size + 2) p ss') (hb : Below (w.heap.size + 2) (w2.alloc (.cells #[.pointer (some ⟨p, 0, none⟩), .pointer (some ⟨q, 0, none⟩)] 85)) w3)
    (hch : ∀ top, TopS (w2.alloc (.cells #[.pointer (some ⟨p, 0, none⟩), .pointer (some ⟨q, 0, none⟩)] 85)) p top → Chg (w2.alloc (.cells #[.pointer (some ⟨p, 0, none⟩), .pointer (some ⟨q, 0, none⟩)] 85)) w3 (w.heap.size + 2) top) : Hid (Bk w w3 w2.heap.size p q ss' gs a0 a1) := by
  have hpl : p < w2.heap.size := by obtain ⟨iv, B, hp, _⟩ := hT.1; exact lt_of_block hp
  have htop : TopS (w2.alloc (.cells #[.pointer (some ⟨p, 0, none⟩), .pointer (some ⟨q, 0, none⟩)] 85)) p top := hT.2.1.of_block (Below.heap_alloc _ _ p hpl)
  have hc := hch top htop
  have hqt : top ≤ w2.heap.size := by obtain ⟨iv, B, hq, hbq, _⟩ := hT.2.2.1; have := lt_of_block hq; omega
  refine ⟨⟨(hb.block _ (by omega)).trans h.r.1, h.r.2.1.trans (hb.mono (by omega)), (hb.block _ (by omega)).trans h.r.2.2⟩, hc.keep h.k (.inr hqt), htw, ?_⟩
  exact ((hT.2.2.1.below (below_box _)).chg hc (Nat.le_refl _)).mono hT.2.2.2

set_option maxRecDepth 20000 in
set_option maxHeartbeats 2000000 in
theorem iNoteText_any (n m tc gc : Nat) (ta ga : Option Addr) (ss : List ByteArray) (gs : List (Int × Int)) (x : ByteArray) (w : World) (hx : x.size ≤ maxLen) (hf : Fine ss gs) (h : LedAt w ta n ga m ss gs) :
    Calls Try.prog 17 #[.agg #[.slice ta n tc, .slice ga m gc], .string x] w fun e w' => OutL w w' e (noteR ss gs x) := by
  obtain ⟨c, hc⟩ : ∃ c, c = flt ss gs := ⟨_, rfl⟩
  have HX : Hid (x.size ≤ maxLen) := hx
  have HN : Hid (ss.length = n) := h.s.1
  have HM : Hid (gs.length = m) := h.g.1
  clear hx
  by_cases hcz : c = 0
  · subst hcz
    have hrd := read4_ok (tc := tc) (gc := gc) hf h hc
    have hlen := flt_le hc
    rw [HN.out, HM.out] at hlen
    have h60 := hlen.1
    clear hlen h hf
    by_cases hsz : inB x.size 1 300 = true
    · have HS : Hid (¬ (x.size < 1 ∨ 300 < x.size)) := by have := inB_true.1 hsz; show ¬ _; omega
      obtain ⟨k, hk⟩ : ∃ k, k = num ss x := ⟨_, rfl⟩
      have HK : Hid (num ss x = k) := hk.symm
      by_cases hk0 : k = 0
      · have hk1 : num ss x = 0 := by rw [← hk]; exact hk0
        by_cases hful : 60 ≤ n
        · rw [noteR_full HN.out hc HS.out hk1 hful]
          subst hk0
          clear hc hk hk1
          go_enter Try.func17, Try.ntmps17
          go_wp2_with (first
            | (go_at_call 58; refine hrd.mono ?_; rintro e w2 ⟨p, q, top, rfl, HB, HT⟩; obtain ⟨K0, K1, K2, K3, K4, K5, K6, K7⟩ := cells4 (HB.out.step (below_box (.cells #[.pointer (some ⟨p, 0, none⟩), .pointer (some ⟨q, 0, none⟩)] 85))).out.1; have hnb := numS_tw x HX.out (HT.out.1.below (below_box (.cells #[.pointer (some ⟨p, 0, none⟩), .pointer (some ⟨q, 0, none⟩)] 85))); rw [HK.out] at hnb; obtain ⟨ia, ic, hI, HSA⟩ := tw_items (o := .cells #[.pointer (some ⟨p, 0, none⟩), .pointer (some ⟨q, 0, none⟩)] 85) HN.out HT.out.1; have hct := countS_any p n ic ia _ hI; clear hI)
            | (go_at_call 59; refine (isTextLength_any _ _).mono ?_; rintro e w' ⟨rfl, hw⟩; subst hw)
            | (go_at_call 60; refine hnb.mono ?_; rintro e w' ⟨rfl, hw⟩; subst hw)
            | (go_at_call 61; refine hct.mono ?_; rintro e w' ⟨rfl, hw⟩; subst hw))
          obtain ⟨s0, s1, s2, s3⟩ := four_set (HB.out.step (below_box (.cells #[.pointer (some ⟨p, 0, none⟩), .pointer (some ⟨q, 0, none⟩)] 85))).out.1 (.int .i64 2) (.int .i64 0) (.slice none 0 0) (.slice none 0 0)
          exact bodyPost_ret (v := .agg #[.int .i64 2, .int .i64 0, .slice none 0 0, .slice none 0 0]) (by simp [results, Try.results17, go_sem, s0, s1, s2, s3]) rfl (OutL.empty (below_res4 (HB.out.step (below_box _)).out.2.1 _ _ _ _))
        · have hr := noteR_new HN.out hc HS.out hk1 hful
          rw [hr]
          subst hk0
          have HK1 : Hid (num ss x = 0) := hk1
          have HKN : Hid (num (ss ++ [x]) x = n + 1) := by show _ = _; rw [num_self hk1, HN.out]
          have hful' : (n : Int) < 60 := by omega
          have hss : ss.length ≤ 100 := by rw [HN.out]; omega
          have HSL : Hid (ss.length ≤ 100) := hss
          have HE1 : Hid ((ss ++ [x]).length = n + 1) := by show _ = _; simp [HN.out]
          clear hr hc hk hk1 hful hss
          go_enter Try.func17, Try.ntmps17
          go_wp2_with (first
            | (go_at_call 58; refine hrd.mono ?_; rintro e w2 ⟨p, q, top, rfl, HB, HT⟩; have hnb := numS_tw x HX.out (HT.out.1.below (below_box (.cells #[.pointer (some ⟨p, 0, none⟩), .pointer (some ⟨q, 0, none⟩)] 85))); rw [HK.out] at hnb; obtain ⟨ia, ic, hI, HSA⟩ := tw_items (o := (.cells #[.pointer (some ⟨p, 0, none⟩), .pointer (some ⟨q, 0, none⟩)] 85)) HN.out HT.out.1; have hct := countS_any p n ic ia _ hI; have HBK0 : Hid (Bk w (w2.alloc (.cells #[.pointer (some ⟨p, 0, none⟩), .pointer (some ⟨q, 0, none⟩)] 85)) w2.heap.size p q ss gs (.slice ta n tc) (.slice ga m gc)) := ⟨(HB.out.step (below_box _)).out, heap_alloc_new _ _, HT.out.1.below (below_box _), (HT.out.2.2.1.mono HT.out.2.2.2).below (below_box _)⟩; clear hI)
            | (go_at_call 59; refine (isTextLength_any _ _).mono ?_; rintro e w' ⟨rfl, hw⟩; subst hw)
            | (go_at_call 60; refine hnb.mono ?_; rintro e w' ⟨rfl, hw⟩; subst hw)
            | (go_at_call 61; refine hct.mono ?_; rintro e w' ⟨rfl, hw⟩; subst hw)
            | (go_at_call 62; refine (addS_frame p (w.heap.size + 2) ss x _ HSL.out HX.out HK1.out HBK0.out.s).mono ?_; rintro e w3 ⟨rfl, htw3, hb3, hch3⟩; have HBK : Hid (Bk w w3 w2.heap.size p q (ss ++ [x]) gs (.slice ta n tc) (.slice ga m gc)) := bk_new HBK0.out HT.out htw3 hb3 hch3; clear htw3 hb3 hch3))
          clear hrd hnb hct HBK0
          obtain ⟨ia, ic, ja, jc, HLD, HRW⟩ := HBK.out.tail HE1.out HM.out
          obtain ⟨t0, t1⟩ := cells2 HBK.out.k
          have hne2 : w2.heap.size ≠ w.heap.size + 1 := by have := HB.out.lt; omega
          have hne3 : w.heap.size + 1 ≠ w2.heap.size := fun e => hne2 e.symm
          have hlk : w2.heap.size < (w3).heap.size := lt_of_block HBK.out.k
          have hnum : ∀ v, Below (w3).heap.size (w3) v → Calls Try.prog 60 #[.pointer (some ⟨p, 0, none⟩), .string x] v fun e w' => e = .returned (.int .i64 ((n : Int) + 1)) ∧ w' = v := fun v hv => by
            have := numS_tw x HX.out (HBK.out.step hv).s
            rw [HKN.out] at this
            simpa using this
          go_region_held3 (fun w' => w'.cell? ⟨w2.heap.size, 0, none⟩ = some (.pointer (some ⟨p, 0, none⟩)) ∧ w'.cell? ⟨w2.heap.size, 1, none⟩ = some (.pointer (some ⟨q, 0, none⟩))) (first | go_keep | (refine ⟨?_, ?_⟩ <;> (rw [World.cell?_of_block (w := w5) (k4 hne2)]; assumption)))
            (first | (go_at_call 60; refine (hnum _ (by first | exact hb5 | exact (Below.refl _ _).drew)).mono ?_; rintro e w6 ⟨rfl, hw⟩; subst hw) | (go_at_call 63; refine HLD.out.mono ?_; rintro e w5 ⟨rfl, hb5⟩; have z0 := (hb5.cell (p := ⟨w2.heap.size, 0, none⟩) hlk).trans t0; have z1 := (hb5.cell (p := ⟨w2.heap.size, 1, none⟩) hlk).trans t1; obtain ⟨J0, J1, J2, J3, J4, J5, J6, J7⟩ := cells4 (HBK.out.r.step hb5).out.1))
          all_goals
            go_wp2
            obtain ⟨s0, s1, s2, s3⟩ := four_set (HBK.out.r.step hb5).out.1 (.int .i64 0) (.int .i64 ((n : Int) + 1)) (.slice ia (n + 1) ic) (.slice ja m jc)
            exact bodyPost_ret (v := .agg #[.int .i64 0, .int .i64 ((n : Int) + 1), .slice ia (n + 1) ic, .slice ja m jc]) (by simp [results, Try.results17, go_sem, s0, s1, s2, s3]) rfl (HBK.out.out HE1.out HM.out hb5 HRW.out ((n : Int) + 1) _ _ _ _)
      · have hr := noteR_old hc HS.out hk hk0
        rw [hr]
        have hki : (k : Int) ≠ 0 := by omega
        have HK0 : Hid (¬ num ss x = 0) := by rw [← hk]; exact hk0
        clear hr hc hk hk0
        go_enter Try.func17, Try.ntmps17
        go_wp2_with (first
          | (go_at_call 58; refine hrd.mono ?_; rintro e w2 ⟨p, q, top, rfl, HB, HT⟩; have hnb := numS_tw x HX.out (HT.out.1.below (below_box (.cells #[.pointer (some ⟨p, 0, none⟩), .pointer (some ⟨q, 0, none⟩)] 85))); rw [HK.out] at hnb; obtain ⟨ia, ic, hI, HSA⟩ := tw_items (o := (.cells #[.pointer (some ⟨p, 0, none⟩), .pointer (some ⟨q, 0, none⟩)] 85)) HN.out HT.out.1; have hct := countS_any p n ic ia _ hI; have HBK0 : Hid (Bk w (w2.alloc (.cells #[.pointer (some ⟨p, 0, none⟩), .pointer (some ⟨q, 0, none⟩)] 85)) w2.heap.size p q ss gs (.slice ta n tc) (.slice ga m gc)) := ⟨(HB.out.step (below_box _)).out, heap_alloc_new _ _, HT.out.1.below (below_box _), (HT.out.2.2.1.mono HT.out.2.2.2).below (below_box _)⟩; clear hI)
          | (go_at_call 59; refine (isTextLength_any _ _).mono ?_; rintro e w' ⟨rfl, hw⟩; subst hw)
          | (go_at_call 60; refine hnb.mono ?_; rintro e w' ⟨rfl, hw⟩; subst hw)
          | (go_at_call 61; refine hct.mono ?_; rintro e w' ⟨rfl, hw⟩; subst hw)
          | (go_at_call 62; refine (addS_old p (w.heap.size + 2) ss x _ HX.out HK0.out HBK0.out.s).mono ?_; rintro e w' ⟨rfl, hw⟩; subst hw))
        have HBK := HBK0
        clear hrd hnb hct HBK0
        obtain ⟨ia, ic, ja, jc, HLD, HRW⟩ := HBK.out.tail HN.out HM.out
        obtain ⟨t0, t1⟩ := cells2 HBK.out.k
        have hne2 : w2.heap.size ≠ w.heap.size + 1 := by have := HB.out.lt; omega
        have hne3 : w.heap.size + 1 ≠ w2.heap.size := fun e => hne2 e.symm
        have hlk : w2.heap.size < (w2.alloc (.cells #[.pointer (some ⟨p, 0, none⟩), .pointer (some ⟨q, 0, none⟩)] 85)).heap.size := lt_of_block HBK.out.k
        have hnum : ∀ v, Below (w2.alloc (.cells #[.pointer (some ⟨p, 0, none⟩), .pointer (some ⟨q, 0, none⟩)] 85)).heap.size (w2.alloc (.cells #[.pointer (some ⟨p, 0, none⟩), .pointer (some ⟨q, 0, none⟩)] 85)) v → Calls Try.prog 60 #[.pointer (some ⟨p, 0, none⟩), .string x] v fun e w' => e = .returned (.int .i64 (k : Int)) ∧ w' = v := fun v hv => by
          have := numS_tw x HX.out (HBK.out.step hv).s
          rw [HK.out] at this
          exact this
        go_region_held3 (fun w' => w'.cell? ⟨w2.heap.size, 0, none⟩ = some (.pointer (some ⟨p, 0, none⟩)) ∧ w'.cell? ⟨w2.heap.size, 1, none⟩ = some (.pointer (some ⟨q, 0, none⟩))) (first | go_keep | (refine ⟨?_, ?_⟩ <;> (rw [World.cell?_of_block (w := w5) (k4 hne2)]; assumption)))
          (first | (go_at_call 60; refine (hnum _ (by first | exact hb5 | exact (Below.refl _ _).drew)).mono ?_; rintro e w6 ⟨rfl, hw⟩; subst hw) | (go_at_call 63; refine HLD.out.mono ?_; rintro e w5 ⟨rfl, hb5⟩; have z0 := (hb5.cell (p := ⟨w2.heap.size, 0, none⟩) hlk).trans t0; have z1 := (hb5.cell (p := ⟨w2.heap.size, 1, none⟩) hlk).trans t1; obtain ⟨J0, J1, J2, J3, J4, J5, J6, J7⟩ := cells4 (HBK.out.r.step hb5).out.1))
        all_goals
          go_wp2
          obtain ⟨s0, s1, s2, s3⟩ := four_set (HBK.out.r.step hb5).out.1 (.int .i64 0) (.int .i64 (k : Int)) (.slice ia n ic) (.slice ja m jc)
          exact bodyPost_ret (v := .agg #[.int .i64 0, .int .i64 (k : Int), .slice ia n ic, .slice ja m jc]) (by simp [results, Try.results17, go_sem, s0, s1, s2, s3]) rfl (HBK.out.out HN.out HM.out hb5 HRW.out (k : Int) _ _ _ _)
    · have hsz' : inB x.size 1 300 = false := by simpa using hsz
      rw [noteR_size hc (by have := inB_false.1 hsz'; omega)]
      clear hc hsz
      go_enter Try.func17, Try.ntmps17
      go_wp2_with (first
        | (go_at_call 58; refine hrd.mono ?_; rintro e w2 ⟨p, q, top, rfl, HB, HT⟩; obtain ⟨K0, K1, K2, K3, K4, K5, K6, K7⟩ := cells4 (HB.out.step (below_box (.cells #[.pointer (some ⟨p, 0, none⟩), .pointer (some ⟨q, 0, none⟩)] 85))).out.1)
        | (go_at_call 59; refine (isTextLength_any _ _).mono ?_; rintro e w' ⟨rfl, hw⟩; subst hw))
      obtain ⟨s0, s1, s2, s3⟩ := four_set (HB.out.step (below_box (.cells #[.pointer (some ⟨p, 0, none⟩), .pointer (some ⟨q, 0, none⟩)] 85))).out.1 (.int .i64 2) (.int .i64 0) (.slice none 0 0) (.slice none 0 0)
      exact bodyPost_ret (v := .agg #[.int .i64 2, .int .i64 0, .slice none 0 0, .slice none 0 0]) (by simp [results, Try.results17, go_sem, s0, s1, s2, s3]) rfl (OutL.empty (below_res4 (HB.out.step (below_box _)).out.2.1 _ _ _ _))
  · have hrd := read4_bad (tc := tc) (gc := gc) hf h hc hcz
    rw [noteR_bad hc hcz]
    clear hc h hf
    go_enter Try.func17, Try.ntmps17
    go_wp2_with (first
      | (go_at_call 58; refine hrd.mono ?_; rintro e w2 ⟨rfl, HB⟩; obtain ⟨K0, K1, K2, K3, K4, K5, K6, K7⟩ := cells4 (HB.out.step (below_box (.cells #[.pointer none, .pointer none] 85))).out.1))
    obtain ⟨s0, s1, s2, s3⟩ := four_set (HB.out.step (below_box (.cells #[.pointer none, .pointer none] 85))).out.1 (.int .i64 c) (.int .i64 0) (.slice none 0 0) (.slice none 0 0)
    exact bodyPost_ret (v := .agg #[.int .i64 c, .int .i64 0, .slice none 0 0, .slice none 0 0]) (by simp [results, Try.results17, go_sem, s0, s1, s2, s3]) rfl (OutL.empty (below_res4 (HB.out.step (below_box _)).out.2.1 _ _ _ _))

end Go.Proofs.Ytcknploejoecdaa
