/- What IdOf and TextOf and HasSign answer: the specification's and the program's. The law on IdOf answers true, whatever ledger and text come in, and writes nothing that was there. -/
import Derived.Test.YtaopblgnmmhjfaaFa
namespace Go.Proofs.Ytaopblgnmmhjfaa
open Go.RowKit Go.Maps Go.WideMaps

/-- Code and number of a text. -/
def idR (ss : List ByteArray) (gs : List (Int × Int)) (x : ByteArray) : Int × Int := if flt ss gs ≠ 0 then (flt ss gs, 0) else if num ss x = 0 then (4, 0) else (0, num ss x)

theorem idR_bad {ss : List ByteArray} {gs : List (Int × Int)} {x : ByteArray} {c : Int} (h : c = flt ss gs) (h0 : c ≠ 0) : idR ss gs x = (c, 0) := by unfold idR; rw [← h, if_pos h0]
theorem idR_none {ss : List ByteArray} {gs : List (Int × Int)} {x : ByteArray} (h : 0 = flt ss gs) (h0 : num ss x = 0) : idR ss gs x = (4, 0) := by unfold idR; rw [← h, if_neg (by simp), if_pos h0]
theorem idR_ok {ss : List ByteArray} {gs : List (Int × Int)} {x : ByteArray} (h : 0 = flt ss gs) {k : Nat} (hk : k = num ss x) (h0 : ¬ k = 0) : idR ss gs x = (0, (k : Int)) := by unfold idR; rw [← h, if_neg (by simp), ← hk, if_neg h0]

/-- What is known behind a call of two blocks that lie boxed ahead of it. -/
theorem box2_facts {w w2 : World} {a0 a1 b0 b1 : Value} {t t' : TypeId} (hb : Below ((w.alloc (.cells #[a0, a1] t)).alloc (.cells #[b0, b1] t')).heap.size ((w.alloc (.cells #[a0, a1] t)).alloc (.cells #[b0, b1] t')) w2) :
    w2.cell? ⟨w.heap.size, 0, none⟩ = some a0 ∧ w2.cell? ⟨w.heap.size, 1, none⟩ = some a1 ∧ w2.cell? ⟨w.heap.size + 1, 0, none⟩ = some b0 ∧ w2.cell? ⟨w.heap.size + 1, 1, none⟩ = some b1 ∧ w2.frozen? ⟨w.heap.size + 1, 0, none⟩ = false ∧ w2.frozen? ⟨w.heap.size + 1, 1, none⟩ = false ∧
    Hid (w2.heap[w.heap.size + 1]? = some (.cells #[b0, b1] t' (0, 0)) ∧ Below w.heap.size w w2 ∧ w2.heap[w.heap.size]? = some (.cells #[a0, a1] t (0, 0))) := by
  have h1 : ((w.alloc (.cells #[a0, a1] t)).alloc (.cells #[b0, b1] t')).heap[w.heap.size + 1]? = some (.cells #[b0, b1] t' (0, 0)) := by
    rw [show w.heap.size + 1 = (w.alloc (.cells #[a0, a1] t)).heap.size by simp]; exact heap_alloc_new _ _
  obtain ⟨x0, x1, _, _, HX⟩ := res_cells (block_at2 (w := w) (o := .cells #[a0, a1] t) (o' := .cells #[b0, b1] t')) hb (by simp; omega)
  obtain ⟨y0, y1, y2, y3, HY⟩ := res_cells h1 hb (by simp)
  exact ⟨x0, x1, y0, y1, y2, y3, HY.out, (below_box2 _ _).trans (hb.mono (by simp; omega)), HX.out⟩

/-- Below, behind the result's two stores. -/
theorem below_res {w w2 : World} (h : Below w.heap.size w w2) (v0 v1 : Value) : Below w.heap.size w ((w2.setCell ⟨w.heap.size + 1, 0, none⟩ v0).setCell ⟨w.heap.size + 1, 1, none⟩ v1) :=
  (h.setCell (p := ⟨w.heap.size + 1, 0, none⟩) (show w.heap.size ≤ w.heap.size + 1 by omega) _).setCell (p := ⟨w.heap.size + 1, 1, none⟩) (show w.heap.size ≤ w.heap.size + 1 by omega) _

/-- The specification's fault where the ledger lies boxed, a result behind it. -/
theorem l1Fault_box (n m tc gc : Nat) (ta ga : Option Addr) (ss : List ByteArray) (gs : List (Int × Int)) (w : World) (b0 b1 : Value) (t' : TypeId)
    (htc : n ≤ tc) (hgc : m ≤ gc) (htm : tc ≤ maxLen) (hgm : gc ≤ maxLen) (hf : Fine ss gs) (h : LedAt w ta n ga m ss gs) :
    Calls Try.prog 79 #[.pointer (some ⟨w.heap.size, 0, none⟩)] ((w.alloc (.cells #[.slice ta n tc, .slice ga m gc] 27)).alloc (.cells #[b0, b1] t')) fun e w' => e = .returned (.int .i64 (flt ss gs)) ∧
      Below ((w.alloc (.cells #[.slice ta n tc, .slice ga m gc] 27)).alloc (.cells #[b0, b1] t')).heap.size ((w.alloc (.cells #[.slice ta n tc, .slice ga m gc] 27)).alloc (.cells #[b0, b1] t')) w' := by
  have hb : Below w.heap.size w ((w.alloc (.cells #[.slice ta n tc, .slice ga m gc] 27)).alloc (.cells #[b0, b1] t')) := below_box2 _ _
  have hx := block_at2 (w := w) (o := .cells #[.slice ta n tc, .slice ga m gc] 27) (o' := .cells #[b0, b1] t')
  exact l1Fault_any w.heap.size n m tc gc ta ga ss gs _ (lt_of_block hx) (by unfold World.cell?; rw [hx]; rfl) (by unfold World.cell?; rw [hx]; rfl) htc hgc htm hgm hf.s (h.s.below hb (Nat.le_refl _)) (h.g.below hb (Nat.le_refl _))

set_option maxHeartbeats 400000 in
theorem sIdOf_any (n m tc gc : Nat) (ta ga : Option Addr) (ss : List ByteArray) (gs : List (Int × Int)) (x : ByteArray) (w : World) (htc : n ≤ tc) (hgc : m ≤ gc) (htm : tc ≤ maxLen) (hgm : gc ≤ maxLen) (hf : Fine ss gs) (h : LedAt w ta n ga m ss gs) :
    Calls Try.prog 36 #[.agg #[.slice ta n tc, .slice ga m gc], .string x] w fun e w' => e = .returned (.agg #[.int .i64 (idR ss gs x).1, .int .i64 (idR ss gs x).2]) ∧ Below w.heap.size w w' := by
  have hfl := l1Fault_box n m tc gc ta ga ss gs w (.int .i64 0) (.int .i64 0) 34 htc hgc htm hgm hf h
  have HL : Hid (LedAt w ta n ga m ss gs) := h
  have HNM : Hid (n ≤ maxLen) := Nat.le_trans htc htm
  clear h hf htc hgc htm hgm
  obtain ⟨c, hc⟩ : ∃ c, c = flt ss gs := ⟨_, rfl⟩
  rw [← hc] at hfl
  by_cases hcz : c = 0
  · subst hcz
    obtain ⟨k, hk⟩ : ∃ k, k = num ss x := ⟨_, rfl⟩
    by_cases hk0 : k = 0
    · have hr := idR_none hc (x := x) (hk ▸ hk0)
      rw [hr]
      have HK : Hid (num ss x = 0) := hk ▸ hk0
      clear hr hc hk hk0
      go_enter Try.func36, Try.ntmps36
      go_wp2_with (first
        | (go_at_call 79; refine hfl.mono ?_; rintro e w2 ⟨rfl, hb2⟩; obtain ⟨p0, p1, q0, q1, q2, q3, HB⟩ := box2_facts hb2; have hat := l1At_any ta n tc ss x w2 HNM.out (HL.out.s.below HB.out.2.1 (Nat.le_refl _)); rw [HK.out] at hat)
        | (go_at_call 81; refine hat.mono ?_; rintro e w3 ⟨rfl, hw⟩; have hw2 := hw.symm; subst hw2))
      obtain ⟨s0, s1, s2⟩ := two_set HB.out.1 (.int .i64 4) (.int .i64 0)
      exact bodyPost_ret (v := .agg #[.int .i64 4, .int .i64 0]) (by simp [results, Try.results36, go_sem, s0, s1]) rfl ⟨rfl, below_res HB.out.2.1 _ _⟩
    · have hr := idR_ok hc hk hk0
      rw [hr]
      have hki : (k : Int) ≠ 0 := by omega
      have HK : Hid (num ss x = k) := hk.symm
      clear hr hc hk hk0
      go_enter Try.func36, Try.ntmps36
      go_wp2_with (first
        | (go_at_call 79; refine hfl.mono ?_; rintro e w2 ⟨rfl, hb2⟩; obtain ⟨p0, p1, q0, q1, q2, q3, HB⟩ := box2_facts hb2; have hat := l1At_any ta n tc ss x w2 HNM.out (HL.out.s.below HB.out.2.1 (Nat.le_refl _)); rw [HK.out] at hat)
        | (go_at_call 81; refine hat.mono ?_; rintro e w3 ⟨rfl, hw⟩; have hw2 := hw.symm; subst hw2))
      obtain ⟨s0, s1, s2⟩ := two_set HB.out.1 (.int .i64 0) (.int .i64 k)
      exact bodyPost_ret (v := .agg #[.int .i64 0, .int .i64 k]) (by simp [results, Try.results36, go_sem, s0, s1]) rfl ⟨rfl, below_res HB.out.2.1 _ _⟩
  · rw [idR_bad hc hcz]
    clear hc
    go_enter Try.func36, Try.ntmps36
    go_wp2_with (first
      | (go_at_call 79; refine hfl.mono ?_; rintro e w2 ⟨rfl, hb2⟩; obtain ⟨p0, p1, q0, q1, q2, q3, HB⟩ := box2_facts hb2))
    obtain ⟨s0, s1, s2⟩ := two_set HB.out.1 (.int .i64 c) (.int .i64 0)
    exact bodyPost_ret (v := .agg #[.int .i64 c, .int .i64 0]) (by simp [results, Try.results36, go_sem, s0, s1]) rfl ⟨rfl, below_res HB.out.2.1 _ _⟩

theorem numS_tw {w : World} {base p : Nat} {l : List ByteArray} (x : ByteArray) (hx : x.size ≤ maxLen) (h : TwS w base p l) :
    Calls Try.prog 75 #[.pointer (some ⟨p, 0, none⟩), .string x] w fun e w' => e = .returned (.int .i64 (num l x : Nat)) ∧ w' = w := by
  obtain ⟨iv, B, hp, hbp, hbB, ho, ht⟩ := h
  exact numS_any p B l x w hx (by unfold World.cell?; rw [hp]; rfl) ht

theorem numG_tw {w : World} {base p : Nat} {l : List (Int × Int)} {a b : Int} (ha : (Lit.int .i64 a).wf = true) (hb : (Lit.int .i64 b).wf = true) (h : TwG w base p l) :
    Calls Try.prog 86 #[.pointer (some ⟨p, 0, none⟩), .agg #[.int .i64 a, .int .i64 b]] w fun e w' => e = .returned (.int .i64 (num l (a, b) : Nat)) ∧ Below w.heap.size w w' := by
  obtain ⟨iv, B, hp, hbp, hbB, ho, ht⟩ := h
  exact numG_any p B l a b w ha hb (lt_of_block hp) (by unfold World.cell?; rw [hp]; rfl) ht

/-- The program's reading of a ledger that lies boxed, a result behind it: where it has no fault. -/
theorem read_ok {w : World} {n m tc gc : Nat} {ta ga : Option Addr} {ss : List ByteArray} {gs : List (Int × Int)} {b0 b1 : Value} {t' : TypeId} (hf : Fine ss gs) (h : LedAt w ta n ga m ss gs) (h0 : 0 = flt ss gs) :
    Calls Try.prog 73 #[.agg #[.slice ta n tc, .slice ga m gc]] ((w.alloc (.cells #[.slice ta n tc, .slice ga m gc] 27)).alloc (.cells #[b0, b1] t')) fun e w' => ∃ p q top, e = .returned (.tuple #[.agg #[.pointer (some ⟨p, 0, none⟩), .pointer (some ⟨q, 0, none⟩)], .int .i64 0]) ∧
      Below ((w.alloc (.cells #[.slice ta n tc, .slice ga m gc] 27)).alloc (.cells #[b0, b1] t')).heap.size ((w.alloc (.cells #[.slice ta n tc, .slice ga m gc] 27)).alloc (.cells #[b0, b1] t')) w' ∧
      Hid (TwS w' (w.heap.size + 2) p ss ∧ TopS w' p top ∧ TwG w' top q gs ∧ w.heap.size + 2 ≤ top) := by
  have hb : Below w.heap.size w ((w.alloc (.cells #[.slice ta n tc, .slice ga m gc] 27)).alloc (.cells #[b0, b1] t')) := below_box2 _ _
  refine (readLedger_any n m tc gc ta ga ss gs _ hf.s hf.g (h.s.below hb (Nat.le_refl _)) (h.g.below hb (Nat.le_refl _))).mono fun e w' hr => ?_
  rcases hr with ⟨hbl, ⟨_, p, q, top, he, h1, h2, h3, h4⟩ | ⟨hn, _⟩⟩
  · have hs : ((w.alloc (.cells #[.slice ta n tc, .slice ga m gc] 27)).alloc (.cells #[b0, b1] t')).heap.size = w.heap.size + 2 := by simp
    rw [hs] at h1 h4
    exact ⟨p, q, top, he, hbl, h1, h2, h3, h4⟩
  · exact absurd h0.symm hn

/-- .. and where it has one. -/
theorem read_bad {w : World} {n m tc gc : Nat} {ta ga : Option Addr} {ss : List ByteArray} {gs : List (Int × Int)} {b0 b1 : Value} {t' : TypeId} {c : Int} (hf : Fine ss gs) (h : LedAt w ta n ga m ss gs) (hc : c = flt ss gs) (h0 : ¬ c = 0) :
    Calls Try.prog 73 #[.agg #[.slice ta n tc, .slice ga m gc]] ((w.alloc (.cells #[.slice ta n tc, .slice ga m gc] 27)).alloc (.cells #[b0, b1] t')) fun e w' => e = .returned (.tuple #[.agg #[.pointer none, .pointer none], .int .i64 c]) ∧
      Below ((w.alloc (.cells #[.slice ta n tc, .slice ga m gc] 27)).alloc (.cells #[b0, b1] t')).heap.size ((w.alloc (.cells #[.slice ta n tc, .slice ga m gc] 27)).alloc (.cells #[b0, b1] t')) w' := by
  have hb : Below w.heap.size w ((w.alloc (.cells #[.slice ta n tc, .slice ga m gc] 27)).alloc (.cells #[b0, b1] t')) := below_box2 _ _
  refine (readLedger_any n m tc gc ta ga ss gs _ hf.s hf.g (h.s.below hb (Nat.le_refl _)) (h.g.below hb (Nat.le_refl _))).mono fun e w' hr => ?_
  rcases hr with ⟨hbl, ⟨hn, _⟩ | ⟨_, he⟩⟩
  · exact absurd (hc.trans hn) h0
  · exact ⟨by rw [hc]; exact he, hbl⟩

/-- The blocks of before behind one block more. -/
theorem box2_more {w w2 : World} {b0 b1 : Value} {t' : TypeId} {o : Obj} (h : w2.heap[w.heap.size + 1]? = some (.cells #[b0, b1] t' (0, 0)) ∧ Below w.heap.size w w2) :
    (w2.alloc o).cell? ⟨w.heap.size + 1, 0, none⟩ = some b0 ∧ (w2.alloc o).cell? ⟨w.heap.size + 1, 1, none⟩ = some b1 ∧ (w2.alloc o).frozen? ⟨w.heap.size + 1, 0, none⟩ = false ∧ (w2.alloc o).frozen? ⟨w.heap.size + 1, 1, none⟩ = false ∧
      Hid ((w2.alloc o).heap[w.heap.size + 1]? = some (.cells #[b0, b1] t' (0, 0)) ∧ Below w.heap.size w (w2.alloc o)) := by
  obtain ⟨x0, x1, x2, x3, HX⟩ := res_cells h.1 (below_box o) (lt_of_block h.1)
  exact ⟨x0, x1, x2, x3, HX.out, h.2.alloc h.2.size _⟩

set_option maxHeartbeats 400000 in
theorem iIdOf_any (n m tc gc : Nat) (ta ga : Option Addr) (ss : List ByteArray) (gs : List (Int × Int)) (x : ByteArray) (w : World) (hx : x.size ≤ maxLen) (hf : Fine ss gs) (h : LedAt w ta n ga m ss gs) :
    Calls Try.prog 23 #[.agg #[.slice ta n tc, .slice ga m gc], .string x] w fun e w' => e = .returned (.agg #[.int .i64 (idR ss gs x).1, .int .i64 (idR ss gs x).2]) ∧ Below w.heap.size w w' := by
  obtain ⟨c, hc⟩ : ∃ c, c = flt ss gs := ⟨_, rfl⟩
  have HX : Hid (x.size ≤ maxLen) := hx
  clear hx
  by_cases hcz : c = 0
  · subst hcz
    have hrd := read_ok (tc := tc) (gc := gc) (b0 := .int .i64 0) (b1 := .int .i64 0) (t' := 34) hf h hc
    clear h hf
    obtain ⟨k, hk⟩ : ∃ k, k = num ss x := ⟨_, rfl⟩
    by_cases hk0 : k = 0
    · have hr := idR_none hc (x := x) (hk ▸ hk0)
      rw [hr]
      have HK : Hid (num ss x = 0) := hk ▸ hk0
      clear hr hc hk hk0
      go_enter Try.func23, Try.ntmps23
      go_wp2_with (first
        | (go_at_call 73; refine hrd.mono ?_; rintro e w2 ⟨p, q, top, rfl, hb2, HT⟩; obtain ⟨p0, p1, q0, q1, q2, q3, HB⟩ := box2_facts hb2; obtain ⟨r0, r1, r2, r3, HR⟩ := box2_more (o := .cells #[.pointer (some ⟨p, 0, none⟩), .pointer (some ⟨q, 0, none⟩)] 100) ⟨HB.out.1, HB.out.2.1⟩; have hat := numS_tw x HX.out (HT.out.1.below (below_box (.cells #[.pointer (some ⟨p, 0, none⟩), .pointer (some ⟨q, 0, none⟩)] 100))); rw [HK.out] at hat; clear p0 p1 q0 q1 q2 q3 hb2)
        | (go_at_call 75; refine hat.mono ?_; rintro e w3 ⟨rfl, hw⟩; subst hw))
      obtain ⟨s0, s1, s2⟩ := two_set HR.out.1 (.int .i64 4) (.int .i64 0)
      exact bodyPost_ret (v := .agg #[.int .i64 4, .int .i64 0]) (by simp [results, Try.results23, go_sem, s0, s1]) rfl ⟨rfl, below_res HR.out.2 _ _⟩
    · have hr := idR_ok hc hk hk0
      rw [hr]
      have hki : (k : Int) ≠ 0 := by omega
      have HK : Hid (num ss x = k) := hk.symm
      clear hr hc hk hk0
      go_enter Try.func23, Try.ntmps23
      go_wp2_with (first
        | (go_at_call 73; refine hrd.mono ?_; rintro e w2 ⟨p, q, top, rfl, hb2, HT⟩; obtain ⟨p0, p1, q0, q1, q2, q3, HB⟩ := box2_facts hb2; obtain ⟨r0, r1, r2, r3, HR⟩ := box2_more (o := .cells #[.pointer (some ⟨p, 0, none⟩), .pointer (some ⟨q, 0, none⟩)] 100) ⟨HB.out.1, HB.out.2.1⟩; have hat := numS_tw x HX.out (HT.out.1.below (below_box (.cells #[.pointer (some ⟨p, 0, none⟩), .pointer (some ⟨q, 0, none⟩)] 100))); rw [HK.out] at hat; clear p0 p1 q0 q1 q2 q3 hb2)
        | (go_at_call 75; refine hat.mono ?_; rintro e w3 ⟨rfl, hw⟩; subst hw))
      obtain ⟨s0, s1, s2⟩ := two_set HR.out.1 (.int .i64 0) (.int .i64 k)
      exact bodyPost_ret (v := .agg #[.int .i64 0, .int .i64 k]) (by simp [results, Try.results23, go_sem, s0, s1]) rfl ⟨rfl, below_res HR.out.2 _ _⟩
  · have hrd := read_bad (tc := tc) (gc := gc) (b0 := .int .i64 0) (b1 := .int .i64 0) (t' := 34) hf h hc hcz
    rw [idR_bad hc hcz]
    clear hc h hf
    go_enter Try.func23, Try.ntmps23
    go_wp2_with (first
      | (go_at_call 73; refine hrd.mono ?_; rintro e w2 ⟨rfl, hb2⟩; obtain ⟨p0, p1, q0, q1, q2, q3, HB⟩ := box2_facts hb2; obtain ⟨r0, r1, r2, r3, HR⟩ := box2_more (o := .cells #[.pointer none, .pointer none] 100) ⟨HB.out.1, HB.out.2.1⟩; clear p0 p1 q0 q1 q2 q3 hb2))
    obtain ⟨s0, s1, s2⟩ := two_set HR.out.1 (.int .i64 c) (.int .i64 0)
    exact bodyPost_ret (v := .agg #[.int .i64 c, .int .i64 0]) (by simp [results, Try.results23, go_sem, s0, s1]) rfl ⟨rfl, below_res HR.out.2 _ _⟩

theorem eqIntR_any (a b : Int) (w : World) : Calls Try.prog 37 #[.agg #[.int .i64 a, .int .i64 b], .agg #[.int .i64 a, .int .i64 b]] w fun e w' => e = .returned (.bool true) ∧ Below w.heap.size w w' := by
  go_enter Try.func37, Try.ntmps37
  go_wp2
  go_ret
  exact ⟨rfl, ((Below.refl _ _).alloc (Nat.le_refl _) _).alloc (by simp) _⟩

end Go.Proofs.Ytaopblgnmmhjfaa

namespace Go.Proofs.Ytaopblgnmmhjfaa
open Go.RowKit Go.Maps Go.WideMaps

theorem keepb {v v' : World} {b : Nat} {o : Obj} (h : v.heap[b]? = some o) (hb : Below v.heap.size v v') : Hid (v'.heap[b]? = some o) := (hb.block b (lt_of_block h)).trans h
theorem cells2 {v : World} {b : Nat} {a0 a1 : Value} {t : TypeId} (h : v.heap[b]? = some (.cells #[a0, a1] t (0, 0))) : v.cell? ⟨b, 0, none⟩ = some a0 ∧ v.cell? ⟨b, 1, none⟩ = some a1 := ⟨by unfold World.cell?; rw [h]; rfl, by unfold World.cell?; rw [h]; rfl⟩

set_option maxHeartbeats 1000000 in
theorem lawIdOf (n m tc gc : Nat) (ta ga : Option Addr) (ss : List ByteArray) (gs : List (Int × Int)) (x : ByteArray) (w : World) (hx : x.size ≤ maxLen) (hn : n ≤ maxLen) (hm : m ≤ maxLen) (hf : Fine ss gs) (h : LedAt w ta n ga m ss gs) :
    Calls Try.prog 6 #[.agg #[.slice ta n tc, .slice ga m gc], .string x] w fun e w' => e = .returned (.bool true) ∧ Below w.heap.size w w' := by
  have B0 := Bx.start w ta n tc ga m gc
  have hsz := szL_any n m tc gc ta ga ss gs _ hn hm hf (B0.led h)
  have HN : Hid (ss.length = n) := h.s.1
  have HM : Hid (gs.length = m) := h.g.1
  have HXL : Hid (x.size ≤ maxLen) := hx
  clear hx
  by_cases hbig : 1048576 < x.size
  · clear hsz hf h
    go_enter Try.func6, Try.ntmps6
    go_wp2
    go_ret
    exact ⟨rfl, B0.bel⟩
  go_enter Try.func6, Try.ntmps6
  go_wp2_with (first
    | (go_at_call 32; refine hsz.mono ?_; rintro e w1 ⟨r, rfl, hr, hb1⟩; have B1 := B0.step hb1; have b10 := B1.c0; have b11 := B1.c1))
  · go_ret
    exact ⟨rfl, B1.bel⟩
  · have hr0 : 0 ≤ r := by assumption
    obtain ⟨hn2, hm2⟩ := hr.le hr0
    have HF : Hid (Fine ss gs) := hf
    have HL : Hid (LedAt w ta n ga m ss gs) := h
    clear hf h hr hsz hb1 b10 b11 B0
    obtain ⟨⟨ra, rb⟩, hres⟩ : ∃ q, q = idR ss gs x := ⟨_, rfl⟩
    refine (toL_any ta ga n m tc gc ss gs w1 hn2 hm2 (B1.led HL.out)).mono ?_
    rintro e w2 ⟨g0, k0, g1, k1, rfl, ho2, hb2⟩
    have B2 := B1.step hb2
    have hcp := ho2.caps
    have hsp := sIdOf_any n m k0 k1 _ _ ss gs x w2 hcp.1 hcp.2.1 hcp.2.2.1 hcp.2.2.2 HF.out (ho2.led HN.out HM.out)
    rw [← hres] at hsp
    clear B1 hb2 ho2 hcp
    go_wp2_with (first
      | (go_at_call 36; refine hsp.mono ?_; rintro e w3 ⟨rfl, hb3⟩; have B3 := (B2.step hb3).step (below_box (.cells #[.int .i64 ra, .int .i64 rb] 34)); have b30 := B3.c0; have b31 := B3.c1; have HW0 : Hid ((w3.alloc (.cells #[.int .i64 ra, .int .i64 rb] 34)).heap[w3.heap.size]? = some (.cells #[.int .i64 ra, .int .i64 rb] 34 (0, 0))) := heap_alloc_new _ _; clear B2 hb3 hsp))
    refine (toL_any ta ga n m tc gc ss gs _ hn2 hm2 (B3.led HL.out)).mono ?_
    rintro e w4 ⟨g2, k2, g3, k3, rfl, ho4, hb4⟩
    have B4 := (B3.step hb4).step (below_box (.cells #[.slice (some ⟨g2, 0, none⟩) n k2, .slice (some ⟨g3, 0, none⟩) m k3] 27))
    have HW1 := keepb (keepb HW0.out hb4).out (below_box (.cells #[.slice (some ⟨g2, 0, none⟩) n k2, .slice (some ⟨g3, 0, none⟩) m k3] 27))
    have L4 := (ho4.led HN.out HM.out).below (below_box (.cells #[.slice (some ⟨g2, 0, none⟩) n k2, .slice (some ⟨g3, 0, none⟩) m k3] 27)) (Nat.le_refl _)
    have HX4 : Hid ((w4.alloc (.cells #[.slice (some ⟨g2, 0, none⟩) n k2, .slice (some ⟨g3, 0, none⟩) m k3] 27)).heap[w4.heap.size]? = some (.cells #[.slice (some ⟨g2, 0, none⟩) n k2, .slice (some ⟨g3, 0, none⟩) m k3] 27 (0, 0))) := heap_alloc_new _ _
    have him := iIdOf_any n m k2 k3 _ _ ss gs x _ HXL.out HF.out L4
    rw [← hres] at him
    clear b30 b31 B3 hb4 ho4 HW0
    go_wp2_with (first
      | (go_at_call 23; refine him.mono ?_; rintro e w5 ⟨rfl, hb5⟩; have B5 := (B4.step hb5).step (below_box (.cells #[.int .i64 ra, .int .i64 rb] 34)); have HW2 := keepb (keepb HW1.out hb5).out (below_box (.cells #[.int .i64 ra, .int .i64 rb] 34)); have HX5 := keepb (keepb HX4.out hb5).out (below_box (.cells #[.int .i64 ra, .int .i64 rb] 34)); obtain ⟨z0, z1⟩ := cells2 HW2.out; have L5 := (L4.below hb5 (Nat.le_refl _)).below (below_box (.cells #[.int .i64 ra, .int .i64 rb] 34)) (Nat.le_refl _); clear B4 L4 HX4 hb5 HW1 him)
      | (go_at_call 37; refine (eqIntR_any _ _ _).mono ?_; rintro e w6 ⟨rfl, hb6⟩; have B6 := B5.step hb6; have HX6 := keepb HX5.out hb6; have L6 := L5.below hb6 (Nat.le_refl _); have b60 := B6.c0; have b61 := B6.c1; obtain ⟨x0, x1⟩ := cells2 HX6.out; clear B5 L5 HX5 hb6 HW2 z0 z1))
    have hto : ∀ j, Calls Try.prog 34 #[.agg #[.slice ta n tc, .slice ga m gc]] (w6.drewN j) fun e w' => ∃ g0 k0 g1 k1, e = .returned (.agg #[.slice (some ⟨g0, 0, none⟩) n k0, .slice (some ⟨g1, 0, none⟩) m k1]) ∧ OwnL w' w6.heap.size n m ss gs g0 k0 g1 k1 ∧ Below w6.heap.size w6 w' := fun j =>
      (toL_any ta ga n m tc gc ss gs _ hn2 hm2 ((B6.draws j).led HL.out)).mono fun e w' ⟨a, b, c, d, h1, h2, h3⟩ => ⟨a, b, c, d, h1, h2, (Joins.below_draws _ w6 j).trans h3⟩
    have hl1 : w4.heap.size < w6.heap.size := lt_of_block HX6.out
    have hl2 : w.heap.size < w6.heap.size := lt_of_block B6.box
    go_region_held3 (fun w' => w'.cell? ⟨w4.heap.size, 0, none⟩ = some (.slice (some ⟨g2, 0, none⟩) n k2) ∧ w'.cell? ⟨w4.heap.size, 1, none⟩ = some (.slice (some ⟨g3, 0, none⟩) m k3) ∧ w'.cell? ⟨w.heap.size, 0, none⟩ = some (.slice ta n tc) ∧ w'.cell? ⟨w.heap.size, 1, none⟩ = some (.slice ga m gc)) (go_keep)
      (first | (go_at_call 34; refine (hto 1).mono ?_; rintro e w7 ⟨g6, k6, g7, k7, rfl, ho7, hb7⟩; have z0 := (hb7.cell (p := ⟨w4.heap.size, 0, none⟩) hl1).trans x0; have z1 := (hb7.cell (p := ⟨w4.heap.size, 1, none⟩) hl1).trans x1; have z2 := (hb7.cell (p := ⟨w.heap.size, 0, none⟩) hl2).trans b60; have z3 := (hb7.cell (p := ⟨w.heap.size, 1, none⟩) hl2).trans b61) | (go_at_call 35; refine (eqL_any _ _ _ _ n m k2 k6 k3 k7 ss gs _ hn2 hm2 (L6.below hb7 (Nat.le_refl _)) (ho7.led HN.out HM.out)).mono ?_; rintro e w8 ⟨rfl, hb8⟩; have hs7 := hb7.size; have y0 := (hb8.cell (p := ⟨w4.heap.size, 0, none⟩) (Nat.lt_of_lt_of_le hl1 hs7)).trans z0; have y1 := (hb8.cell (p := ⟨w4.heap.size, 1, none⟩) (Nat.lt_of_lt_of_le hl1 hs7)).trans z1; have y2 := (hb8.cell (p := ⟨w.heap.size, 0, none⟩) (Nat.lt_of_lt_of_le hl2 hs7)).trans z2; have y3 := (hb8.cell (p := ⟨w.heap.size, 1, none⟩) (Nat.lt_of_lt_of_le hl2 hs7)).trans z3))
    go_wp2
    go_ret
    exact ⟨rfl, ((B6.step hb7).step hb8).bel⟩

end Go.Proofs.Ytaopblgnmmhjfaa
