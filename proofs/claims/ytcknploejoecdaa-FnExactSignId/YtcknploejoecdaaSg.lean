/- What the specification's SignId answers. -/
import Derived.Test.YtcknploejoecdaaNt
namespace Go.Proofs.Ytcknploejoecdaa
open Go.RowKit Go.Maps Go.WideMaps

def signR (ss : List ByteArray) (gs : List (Int × Int)) (a b : Int) : LRes :=
  if flt ss gs ≠ 0 then ⟨flt ss gs, 0, [], []⟩ else if inB a 1 999 = false ∨ inB b 1 ss.length = false then ⟨3, 0, [], []⟩ else if memB gs (a, b) = true then ⟨0, b, ss, gs⟩ else if 120 ≤ gs.length then ⟨2, 0, [], []⟩ else ⟨0, b, ss, gs ++ [(a, b)]⟩

section
variable {ss : List ByteArray} {gs : List (Int × Int)} {a b : Int} {n m : Nat}
theorem signR_bad {c : Int} (h : c = flt ss gs) (h0 : c ≠ 0) : signR ss gs a b = ⟨c, 0, [], []⟩ := by unfold signR; rw [← h, if_pos h0]
theorem signR_range (hn : ss.length = n) (h : 0 = flt ss gs) (h1 : inB a 1 999 = false ∨ inB b 1 n = false) : signR ss gs a b = ⟨3, 0, [], []⟩ := by unfold signR; rw [← h, if_neg (by simp), hn, if_pos h1]
theorem signR_old (hn : ss.length = n) (h : 0 = flt ss gs) (h1 : inB a 1 999 = true) (h2 : inB b 1 n = true) (hk : true = memB gs (a, b)) : signR ss gs a b = ⟨0, b, ss, gs⟩ := by unfold signR; rw [← h, if_neg (by simp), hn, if_neg (by simp [h1, h2]), if_pos hk.symm]
theorem signR_full (hn : ss.length = n) (hm : gs.length = m) (h : 0 = flt ss gs) (h1 : inB a 1 999 = true) (h2 : inB b 1 n = true) (hk : false = memB gs (a, b)) (h120 : 120 ≤ m) : signR ss gs a b = ⟨2, 0, [], []⟩ := by unfold signR; rw [← h, if_neg (by simp), hn, if_neg (by simp [h1, h2]), if_neg (by simp [← hk]), hm, if_pos h120]
theorem signR_new (hn : ss.length = n) (hm : gs.length = m) (h : 0 = flt ss gs) (h1 : inB a 1 999 = true) (h2 : inB b 1 n = true) (hk : false = memB gs (a, b)) (h120 : ¬ 120 ≤ m) : signR ss gs a b = ⟨0, b, ss, gs ++ [(a, b)]⟩ := by unfold signR; rw [← h, if_neg (by simp), hn, if_neg (by simp [h1, h2]), if_neg (by simp [← hk]), hm, if_neg h120]
end

/-- What the append of a signature leaves. -/
theorem sg_new {w V w5 : World} {a0 a1 : Value} {n m g0 k0 g1 k1 g cap base K : Nat} {ss : List ByteArray} {gs : List (Int × Int)} {o : Obj} {zs : List Value}
    (HB : Box4 w V a0 a1 27) (HO : OwnL V base n m ss gs g0 k0 g1 k1) (HX : V.heap[K]? = some (.cells #[.slice (some ⟨g0, 0, none⟩) n k0, .slice (some ⟨g1, 0, none⟩) m k1] 27 (0, 0)))
    (ho : w5.ownsRow base 100 2 (.slice (some ⟨g, 0, none⟩) (m + 1) cap) (m + 1) zs) (hg : (V.alloc o).grownBy w5 (Value.ownBlock (.slice (some ⟨g1, 0, none⟩) m k1))) (h12 : w.heap.size + 1 < base) (h23 : base ≤ K) :
    w5.cell? ⟨K, 0, none⟩ = some (.slice (some ⟨g0, 0, none⟩) n k0) ∧ w5.cell? ⟨K, 1, none⟩ = some (.slice (some ⟨g1, 0, none⟩) m k1) ∧ w5.frozen? ⟨K, 1, none⟩ = false ∧
    (w5.setCell ⟨K, 1, none⟩ (.slice (some ⟨g, 0, none⟩) (m + 1) cap)).cell? ⟨K, 0, none⟩ = some (.slice (some ⟨g0, 0, none⟩) n k0) ∧
    (w5.setCell ⟨K, 1, none⟩ (.slice (some ⟨g, 0, none⟩) (m + 1) cap)).cell? ⟨K, 1, none⟩ = some (.slice (some ⟨g, 0, none⟩) (m + 1) cap) ∧
    Hid (Box4 w (w5.setCell ⟨K, 1, none⟩ (.slice (some ⟨g, 0, none⟩) (m + 1) cap)) a0 a1 27 ∧ (w5.setCell ⟨K, 1, none⟩ (.slice (some ⟨g, 0, none⟩) (m + 1) cap)).ownsRow base 9 1 (.slice (some ⟨g0, 0, none⟩) n k0) n (ss.map Value.string) ∧
      (w5.setCell ⟨K, 1, none⟩ (.slice (some ⟨g, 0, none⟩) (m + 1) cap)).ownsRow base 100 2 (.slice (some ⟨g, 0, none⟩) (m + 1) cap) (m + 1) zs) ∧
    (w5.setCell ⟨K, 1, none⟩ (.slice (some ⟨g, 0, none⟩) (m + 1) cap)).cell? ⟨w.heap.size + 1, 0, none⟩ = some (.int .i64 0) ∧ (w5.setCell ⟨K, 1, none⟩ (.slice (some ⟨g, 0, none⟩) (m + 1) cap)).cell? ⟨w.heap.size + 1, 1, none⟩ = some (.int .i64 0) ∧ (w5.setCell ⟨K, 1, none⟩ (.slice (some ⟨g, 0, none⟩) (m + 1) cap)).cell? ⟨w.heap.size + 1, 2, none⟩ = some (.slice none 0 0) ∧ (w5.setCell ⟨K, 1, none⟩ (.slice (some ⟨g, 0, none⟩) (m + 1) cap)).cell? ⟨w.heap.size + 1, 3, none⟩ = some (.slice none 0 0) ∧
    (w5.setCell ⟨K, 1, none⟩ (.slice (some ⟨g, 0, none⟩) (m + 1) cap)).frozen? ⟨w.heap.size + 1, 0, none⟩ = false ∧ (w5.setCell ⟨K, 1, none⟩ (.slice (some ⟨g, 0, none⟩) (m + 1) cap)).frozen? ⟨w.heap.size + 1, 1, none⟩ = false ∧ (w5.setCell ⟨K, 1, none⟩ (.slice (some ⟨g, 0, none⟩) (m + 1) cap)).frozen? ⟨w.heap.size + 1, 2, none⟩ = false ∧ (w5.setCell ⟨K, 1, none⟩ (.slice (some ⟨g, 0, none⟩) (m + 1) cap)).frozen? ⟨w.heap.size + 1, 3, none⟩ = false := by
  have hgX : ∃ cur, V.heap[g1]? = some (.cells cur 100 (0, 0)) := by
    rcases HO.2.2 with ⟨e, _⟩ | ⟨g', c', cur, e, _, hh, _⟩
    · cases e
    · simp at e
      obtain ⟨rfl, rfl⟩ := e
      exact ⟨cur, hh⟩
  obtain ⟨cur, hcur⟩ := hgX
  have kp : ∀ {b : Nat} {cs : Array Value} {t : TypeId}, V.heap[b]? = some (.cells cs t (0, 0)) → t ≠ 100 → w5.heap[b]? = some (.cells cs t (0, 0)) := by
    intro b cs t hb hne
    have hbl := lt_of_block hb
    have hbg : b ≠ g1 := by rintro rfl; rw [hb] at hcur; simp at hcur; exact hne hcur.2
    exact (hg.block b (by simp only [World.size_alloc]; omega) (by simpa [Value.ownBlock] using hbg)).trans ((Below.heap_alloc _ _ b hbl).trans hb)
  have hX5 := kp HX (by decide)
  have hR5 := kp HB.1 (by decide)
  have hA5 := kp HB.2.2 (by decide)
  have hne1 : w.heap.size + 1 ≠ K := by omega
  have hne0 : w.heap.size ≠ K := by omega
  have hB5 : Below w.heap.size w w5 := (HB.2.1.alloc HB.2.1.size _).grown hg (by have := HB.2.1.size; simp only [World.size_alloc] at this ⊢; omega) (fun j hj => by have := (HO.2.lt j hj).1; omega)
  have hX6 : (w5.setCell ⟨K, 1, none⟩ (.slice (some ⟨g, 0, none⟩) (m + 1) cap)).heap[K]? = some (.cells #[.slice (some ⟨g0, 0, none⟩) n k0, .slice (some ⟨g, 0, none⟩) (m + 1) cap] 27 (0, 0)) := by
    have := Joins.block_setCell (i := 1) hX5 (.slice (some ⟨g, 0, none⟩) (m + 1) cap)
    simpa using this
  have hR6 := (Below.heap_setCell w5 ⟨K, 1, none⟩ (.slice (some ⟨g, 0, none⟩) (m + 1) cap) (w.heap.size + 1) hne1).trans hR5
  have hA6 := (Below.heap_setCell w5 ⟨K, 1, none⟩ (.slice (some ⟨g, 0, none⟩) (m + 1) cap) w.heap.size hne0).trans hA5
  have hgr := keep_row (X := g1) hg ((Below.heap_alloc _ _ g1 (lt_of_block hcur)).trans hcur) (HO.1.alloc _) (by decide)
  refine ⟨(cells2 hX5).1, (cells2 hX5).2, Joins.unfrozen_of_block hX5 1, (cells2 hX6).1, (cells2 hX6).2, ⟨⟨hR6, hB5.setCell (p := ⟨K, 1, none⟩) (show w.heap.size ≤ K by omega) _, hA6⟩, row_set_other hgr hX5 (by decide) _, row_set_other ho hX5 (by decide) _⟩, cells4 hR6⟩

/-- What lies behind the copy and the signature's box. -/
structure Sx (w V : World) (a0 a1 : Value) (base K X n m : Nat) (ss : List ByteArray) (gs : List (Int × Int)) (g0 k0 g1 k1 : Nat) (a b : Int) : Prop where
  r : Box4 w V a0 a1 27
  o : OwnL V base n m ss gs g0 k0 g1 k1
  k : V.heap[K]? = some (.cells #[.slice (some ⟨g0, 0, none⟩) n k0, .slice (some ⟨g1, 0, none⟩) m k1] 27 (0, 0))
  x : V.heap[X]? = some (.cells #[.int .i64 a, .int .i64 b] 100 (0, 0))

theorem Sx.step {w V V' : World} {a0 a1 : Value} {base K X n m : Nat} {ss : List ByteArray} {gs : List (Int × Int)} {g0 k0 g1 k1 : Nat} {a b : Int} (h : Sx w V a0 a1 base K X n m ss gs g0 k0 g1 k1 a b) (hb : Below V.heap.size V V') : Sx w V' a0 a1 base K X n m ss gs g0 k0 g1 k1 a b :=
  ⟨(h.r.step hb).out, h.o.below hb, (keepb h.k hb).out, (keepb h.x hb).out⟩

theorem Sx.start {w w2 w3 : World} {a0 a1 : Value} {n m : Nat} {ss : List ByteArray} {gs : List (Int × Int)} {g0 k0 g1 k1 : Nat} {a b : Int} (h : Box4 w w2 a0 a1 27) (ho : OwnL w3 w2.heap.size n m ss gs g0 k0 g1 k1) (hb : Below w2.heap.size w2 w3) :
    Sx w ((w3.alloc (.cells #[.slice (some ⟨g0, 0, none⟩) n k0, .slice (some ⟨g1, 0, none⟩) m k1] 27)).alloc (.cells #[.int .i64 a, .int .i64 b] 100)) a0 a1 w2.heap.size w3.heap.size (w3.heap.size + 1) n m ss gs g0 k0 g1 k1 a b :=
  ⟨((h.step hb).out.step (below_box2 _ _)).out, ho.below (below_box2 _ _), block_at2, heap_at _ _ _ (by simp)⟩

set_option maxRecDepth 20000 in
set_option maxHeartbeats 2000000 in
theorem sSignId_any (n m tc gc b0 o0 b1 o1 : Nat) (ss : List ByteArray) (gs : List (Int × Int)) (a b : Int) (w : World) (htc : n ≤ tc) (hgc : m ≤ gc) (htm : tc ≤ maxLen) (hgm : gc ≤ maxLen) (hf : Fine ss gs) (h : LedAt w (some ⟨b0, o0, none⟩) n (some ⟨b1, o1, none⟩) m ss gs) :
    Calls Try.prog 24 #[.agg #[.slice (some ⟨b0, o0, none⟩) n tc, .slice (some ⟨b1, o1, none⟩) m gc], .int .i64 a, .int .i64 b] w fun e w' => OutL w w' e (signR ss gs a b) := by
  have hfl := l1Fault_box4 n m tc gc _ _ ss gs w htc hgc htm hgm hf h
  have HL : Hid (LedAt w (some ⟨b0, o0, none⟩) n (some ⟨b1, o1, none⟩) m ss gs) := h
  have HMM : Hid (m ≤ maxLen) := Nat.le_trans hgc hgm
  have HN : Hid (ss.length = n) := h.s.1
  have HM : Hid (gs.length = m) := h.g.1
  clear h hf htc hgc htm hgm
  obtain ⟨c, hc⟩ : ∃ c, c = flt ss gs := ⟨_, rfl⟩
  rw [← hc] at hfl
  by_cases hcz : c = 0
  · subst hcz
    have hlen := flt_le hc
    rw [HN.out, HM.out] at hlen
    have h60 := hlen.1
    have h120 := hlen.2
    clear hlen
    obtain ⟨ka, hka⟩ : ∃ ka, ka = inB a 1 999 := ⟨_, rfl⟩
    obtain ⟨kb, hkb⟩ : ∃ kb, kb = inB b 1 n := ⟨_, rfl⟩
    have hkey : ∀ v, Calls Try.prog 74 #[.int .i64 a] v fun e w' => e = .returned (.bool ka) ∧ w' = v := fun v => by rw [hka]; exact l1Key_any a v
    have hid : ∀ v, v.cell? ⟨w.heap.size, 0, none⟩ = some (.slice (some ⟨b0, o0, none⟩) n tc) → Calls Try.prog 75 #[.pointer (some ⟨w.heap.size, 0, none⟩), .int .i64 b] v fun e w' => e = .returned (.bool kb) ∧ w' = v := fun v hv => by rw [hkb]; exact l1Id_any w.heap.size n tc _ b v hv
    by_cases hs : ka = false ∨ kb = false
    · have hr := signR_range (a := a) (b := b) HN.out hc (by rw [← hka, ← hkb]; exact hs)
      rw [hr]
      clear hc hr hka hkb
      have hs2 : ka = false ∨ ka = true ∧ kb = false := by rcases hs with h | h <;> cases ka <;> simp_all
      clear hs
      rcases hs2 with rfl | ⟨rfl, rfl⟩
      all_goals
        go_enter Try.func24, Try.ntmps24
        go_wp2_with (first
          | (go_at_call 64; refine hfl.mono ?_; rintro e w2 ⟨rfl, HB⟩; obtain ⟨r0, r1⟩ := cells2 HB.out.2.2; obtain ⟨q0, q1, q2, q3, q4, q5, q6, q7⟩ := cells4 HB.out.1)
          | (go_at_call 74; refine (hkey _).mono ?_; rintro e w' ⟨rfl, hw⟩; have hw2 := hw.symm; subst hw2)
          | (go_at_call 75; refine (hid _ r0).mono ?_; rintro e w' ⟨rfl, hw⟩; have hw2 := hw.symm; subst hw2))
        obtain ⟨s0, s1, s2, s3⟩ := four_set HB.out.1 (.int .i64 3) (.int .i64 0) (.slice none 0 0) (.slice none 0 0)
        exact bodyPost_ret (v := .agg #[.int .i64 3, .int .i64 0, .slice none 0 0, .slice none 0 0]) (by simp [results, Try.results24, go_sem, s0, s1, s2, s3]) rfl (OutL.empty (below_res4 HB.out.2.1 _ _ _ _))
    · obtain rfl : ka = true := by cases ka <;> simp_all
      obtain rfl : kb = true := by cases kb <;> simp_all
      obtain ⟨mb, hmb⟩ : ∃ mb, mb = memB gs (a, b) := ⟨_, rfl⟩
      have HK : Hid (memB gs (a, b) = mb) := hmb.symm
      have HA : Hid (inB a 1 999 = true) := hka.symm
      have HBB : Hid (inB b 1 n = true) := hkb.symm
      have HC : Hid (0 = flt ss gs) := hc
      clear hs hc hmb hka hkb
      obtain ⟨i0, hi, hz0, hz1, hz2⟩ := info_parts Try.infoSig
      cases mb with
      | true =>
        have hr := signR_old HN.out HC.out HA.out HBB.out HK.out.symm
        go_enter Try.func24, Try.ntmps24
        go_wp2_with (first
          | (go_at_call 64; refine hfl.mono ?_; rintro e w2 ⟨rfl, HB⟩; obtain ⟨r0, r1⟩ := cells2 HB.out.2.2)
          | (go_at_call 74; refine (hkey _).mono ?_; rintro e w' ⟨rfl, hw⟩; have hw2 := hw.symm; subst hw2)
          | (go_at_call 75; refine (hid _ r0).mono ?_; rintro e w' ⟨rfl, hw⟩; have hw2 := hw.symm; subst hw2)
          | (go_at_call 65; refine (l1Copy_any b0 o0 b1 o1 n m tc gc ss gs w2 h60 h120 (HL.out.below HB.out.2.1 (Nat.le_refl _))).mono ?_; rintro e w3 ⟨g0, k0, g1, k1, rfl, ho3, hb3⟩; have HSX := Sx.start (a := a) (b := b) HB.out ho3 hb3; obtain ⟨y0, y1⟩ := cells2 HSX.r.2.2; obtain ⟨x0, x1⟩ := cells2 HSX.x; have hsg := l1Signed_any _ m gc gs a b _ HMM.out (HL.out.g.below HSX.r.2.1 (Nat.le_refl _)); rw [HK.out] at hsg; have hzz := HB.out.lt; have hz3 := hb3.size; have HS : Hid (Sx w ((w3.alloc (.cells #[.slice (some ⟨g0, 0, none⟩) n k0, .slice (some ⟨g1, 0, none⟩) m k1] 27)).alloc (.cells #[.int .i64 a, .int .i64 b] 100)) (.slice (some ⟨b0, o0, none⟩) n tc) (.slice (some ⟨b1, o1, none⟩) m gc) w2.heap.size w3.heap.size (w3.heap.size + 1) n m ss gs g0 k0 g1 k1 a b) := HSX; clear ho3 hb3 r0 r1 HSX)
          | (go_at_call 76; refine hsg.mono ?_; rintro e w5 ⟨rfl, hb5⟩; have HS5 : Hid (Sx w w5 (.slice (some ⟨b0, o0, none⟩) n tc) (.slice (some ⟨b1, o1, none⟩) m gc) w2.heap.size w3.heap.size (w3.heap.size + 1) n m ss gs g0 k0 g1 k1 a b) := HS.out.step hb5; clear y0 y1 x0 x1 hb5; obtain ⟨y0, y1⟩ := cells2 HS5.out.r.2.2; obtain ⟨x0, x1⟩ := cells2 HS5.out.x; obtain ⟨z0, z1⟩ := cells2 HS5.out.k; obtain ⟨q0, q1, q2, q3, q4, q5, q6, q7⟩ := cells4 HS5.out.r.1))
        obtain ⟨s0, s1, s2, s3⟩ := four_set HS5.out.r.1 (.int .i64 0) (.int .i64 b) (.slice (some ⟨g0, 0, none⟩) n k0) (.slice (some ⟨g1, 0, none⟩) m k1)
        refine bodyPost_ret (v := .agg #[.int .i64 0, .int .i64 b, .slice (some ⟨g0, 0, none⟩) n k0, .slice (some ⟨g1, 0, none⟩) m k1]) (by simp [results, Try.results24, go_sem, s0, s1, s2, s3]) rfl ?_
        rw [hr]
        refine ⟨below_res4 HS5.out.r.2.1 _ _ _ _, some ⟨g0, 0, none⟩, k0, some ⟨g1, 0, none⟩, k1, by simp only [HN.out, HM.out], ?_, ?_⟩
        · simp only [HN.out]
          exact row_res4 HS5.out.o.1 (by omega) (by omega) _ _ _ _
        · simp only [HM.out]
          exact row_res4 HS5.out.o.2 (by omega) (by omega) _ _ _ _
      | false =>
        go_enter Try.func24, Try.ntmps24
        go_wp2_with (first
          | (go_at_call 64; refine hfl.mono ?_; rintro e w2 ⟨rfl, HB⟩; obtain ⟨r0, r1⟩ := cells2 HB.out.2.2)
          | (go_at_call 74; refine (hkey _).mono ?_; rintro e w' ⟨rfl, hw⟩; have hw2 := hw.symm; subst hw2)
          | (go_at_call 75; refine (hid _ r0).mono ?_; rintro e w' ⟨rfl, hw⟩; have hw2 := hw.symm; subst hw2)
          | (go_at_call 65; refine (l1Copy_any b0 o0 b1 o1 n m tc gc ss gs w2 h60 h120 (HL.out.below HB.out.2.1 (Nat.le_refl _))).mono ?_; rintro e w3 ⟨g0, k0, g1, k1, rfl, ho3, hb3⟩; have HSX := Sx.start (a := a) (b := b) HB.out ho3 hb3; obtain ⟨y0, y1⟩ := cells2 HSX.r.2.2; obtain ⟨x0, x1⟩ := cells2 HSX.x; have hsg := l1Signed_any _ m gc gs a b _ HMM.out (HL.out.g.below HSX.r.2.1 (Nat.le_refl _)); rw [HK.out] at hsg; have hzz := HB.out.lt; have hz3 := hb3.size; have HS : Hid (Sx w ((w3.alloc (.cells #[.slice (some ⟨g0, 0, none⟩) n k0, .slice (some ⟨g1, 0, none⟩) m k1] 27)).alloc (.cells #[.int .i64 a, .int .i64 b] 100)) (.slice (some ⟨b0, o0, none⟩) n tc) (.slice (some ⟨b1, o1, none⟩) m gc) w2.heap.size w3.heap.size (w3.heap.size + 1) n m ss gs g0 k0 g1 k1 a b) := HSX; clear ho3 hb3 r0 r1 HSX)
          | (go_at_call 76; refine hsg.mono ?_; rintro e w5 ⟨rfl, hb5⟩; have HS5 : Hid (Sx w w5 (.slice (some ⟨b0, o0, none⟩) n tc) (.slice (some ⟨b1, o1, none⟩) m gc) w2.heap.size w3.heap.size (w3.heap.size + 1) n m ss gs g0 k0 g1 k1 a b) := HS.out.step hb5; clear y0 y1 x0 x1 hb5; obtain ⟨y0, y1⟩ := cells2 HS5.out.r.2.2; obtain ⟨x0, x1⟩ := cells2 HS5.out.x; obtain ⟨z0, z1⟩ := cells2 HS5.out.k; obtain ⟨q0, q1, q2, q3, q4, q5, q6, q7⟩ := cells4 HS5.out.r.1)
          | (at_builtin; go_must (refine wpList_append_lies _ (by rfl) _ _ 25 (by rfl) w2.heap.size 100 i0 (.agg #[.int .i64 0, .int .i64 0]) 2 16 Try.underlying25 hi hz0 hz1 hz2 rfl (by omega) (.slice (some ⟨g1, 0, none⟩) m k1) m (gcells gs) (by rfl) (HS5.out.o.2.alloc _) ⟨w5.heap.size, 0, none⟩ 1 1 [.int .i64 a, .int .i64 b] (by rfl) (by rfl) (news2 (heap_at _ _ _ rfl)) one2 (by omega) (by unfold maxLen; omega) (by omega) (by have := HS5.out.r.lt; have := lt_of_block HS5.out.k; simp; omega) (w5.heap.size + 1) (by simp) ?_; intro g cap w6 ho6 hg6 hat2 hlt2; obtain ⟨u0, u1, u2, m0, m1, HN6, v0, v1, v2, v3, v4, v5, v6, v7⟩ := sg_new HS5.out.r HS5.out.o HS5.out.k ho6 hg6 (by omega) hz3; clear y0 y1 x0 x1 z0 z1 q0 q1 q2 q3 q4 q5 q6 q7 ho6 hg6 hat2 hlt2)))
        · have hn120 : (120 : Int) ≤ (m : Int) := by assumption
          have hr := signR_full HN.out HM.out HC.out HA.out HBB.out HK.out.symm (by omega)
          obtain ⟨s0, s1, s2, s3⟩ := four_set HS5.out.r.1 (.int .i64 2) (.int .i64 0) (.slice none 0 0) (.slice none 0 0)
          refine bodyPost_ret (v := .agg #[.int .i64 2, .int .i64 0, .slice none 0 0, .slice none 0 0]) (by simp [results, Try.results24, go_sem, s0, s1, s2, s3]) rfl ?_
          rw [hr]
          exact OutL.empty (below_res4 HS5.out.r.2.1 _ _ _ _)
        · have hn120 : (m : Int) < (120 : Int) := by assumption
          have hr := signR_new HN.out HM.out HC.out HA.out HBB.out HK.out.symm (by omega)
          obtain ⟨s0, s1, s2, s3⟩ := four_set HN6.out.1.1 (.int .i64 0) (.int .i64 b) (.slice (some ⟨g0, 0, none⟩) n k0) (.slice (some ⟨g, 0, none⟩) (m + 1) cap)
          refine bodyPost_ret (v := .agg #[.int .i64 0, .int .i64 b, .slice (some ⟨g0, 0, none⟩) n k0, .slice (some ⟨g, 0, none⟩) (m + 1) cap]) (by simp [results, Try.results24, go_sem, s0, s1, s2, s3]) rfl ?_
          rw [hr]
          have e1 : (gs ++ [(a, b)]).length = m + 1 := by simp [HM.out]
          have e2 : gcells (gs ++ [(a, b)]) = gcells gs ++ [.int .i64 a, .int .i64 b] := by simp [gcells]
          refine ⟨below_res4 HN6.out.1.2.1 _ _ _ _, some ⟨g0, 0, none⟩, k0, some ⟨g, 0, none⟩, cap, by simp only [e1, HN.out], ?_, ?_⟩
          · simp only [HN.out]
            exact row_res4 HN6.out.2.1 (by omega) (by omega) _ _ _ _
          · simp only [e1, e2]
            exact row_res4 HN6.out.2.2 (by omega) (by omega) _ _ _ _
  · rw [signR_bad hc hcz]
    clear hc
    go_enter Try.func24, Try.ntmps24
    go_wp2_with (first | (go_at_call 64; refine hfl.mono ?_; rintro e w2 ⟨rfl, HB⟩; obtain ⟨q0, q1, q2, q3, q4, q5, q6, q7⟩ := cells4 HB.out.1))
    obtain ⟨s0, s1, s2, s3⟩ := four_set HB.out.1 (.int .i64 c) (.int .i64 0) (.slice none 0 0) (.slice none 0 0)
    exact bodyPost_ret (v := .agg #[.int .i64 c, .int .i64 0, .slice none 0 0, .slice none 0 0]) (by simp [results, Try.results24, go_sem, s0, s1, s2, s3]) rfl (OutL.empty (below_res4 HB.out.2.1 _ _ _ _))

end Go.Proofs.Ytcknploejoecdaa
