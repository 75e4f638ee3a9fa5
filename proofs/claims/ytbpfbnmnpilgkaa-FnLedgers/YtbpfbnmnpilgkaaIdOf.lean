/- What IdOf and TextOf and HasSign answer: the specification's and the program's. The law on IdOf answers true, whatever ledger and text come in, and writes nothing that was there. -/
import Derived.Test.YtbpfbnmnpilgkaaFa
namespace Go.Proofs.Ytbpfbnmnpilgkaa
open Go.RowKit Go.Maps Go.WideMaps

/-- Code and number of a text. -/
def idR (ss : List ByteArray) (gs : List (Int × Int)) (x : ByteArray) : Int × Int := if flt ss gs ≠ 0 then (flt ss gs, 0) else if num ss x = 0 then (4, 0) else (0, num ss x)

theorem idR_bad {ss : List ByteArray} {gs : List (Int × Int)} {x : ByteArray} {c : Int} (h : c = flt ss gs) (h0 : c ≠ 0) : idR ss gs x = (c, 0) := by unfold idR; rw [← h, if_pos h0]
theorem idR_none {ss : List ByteArray} {gs : List (Int × Int)} {x : ByteArray} (h : 0 = flt ss gs) (h0 : num ss x = 0) : idR ss gs x = (4, 0) := by unfold idR; rw [← h, if_neg (by simp), if_pos h0]
theorem idR_ok {ss : List ByteArray} {gs : List (Int × Int)} {x : ByteArray} (h : 0 = flt ss gs) {k : Nat} (hk : k = num ss x) (h0 : ¬ k = 0) : idR ss gs x = (0, (k : Int)) := by unfold idR; rw [← h, if_neg (by simp), ← hk, if_neg h0]

/-- What is known behind a call of two blocks that lie boxed ahead of it. -/
theorem box2_facts {w w2 : World} {a0 a1 b0 b1 : Value} {t t' : TypeId} (hb : Below ((w.alloc (.cells #[a0, a1] t)).alloc (.cells #[b0, b1] t')).heap.size ((w.alloc (.cells #[a0, a1] t)).alloc (.cells #[b0, b1] t')) w2) :
    w2.cell? ⟨w.heap.size, 0, none⟩ = some a0 ∧ w2.cell? ⟨w.heap.size, 1, none⟩ = some a1 ∧ w2.cell? ⟨w.heap.size + 1, 0, none⟩ = some b0 ∧ w2.cell? ⟨w.heap.size + 1, 1, none⟩ = some b1 ∧ w2.frozen? ⟨w.heap.size + 1, 0, none⟩ = false ∧ w2.frozen? ⟨w.heap.size + 1, 1, none⟩ = false ∧
    Hid (w2.heap[w.heap.size + 1]? = some (.cells #[b0, b1] t' (0, 0)) ∧ Below w.heap.size w w2 ∧ w2.heap[w.heap.size]? = some (.cells #[a0, a1] t (0, 0))) := by
  have h1 : ((w.alloc (.cells #[a0, a1] t)).alloc (.cells #[b0, b1] t')).heap[w.heap.size + 1]? = some (.cells #[b0, b1] t' (0, 0)) := by
    rw [show w.heap.size + 1 = (w.alloc (.cells #[a0, a1] t)).heap.size by simp]; exact heap_alloc_new _ _
  obtain ⟨x0, x1, _, _, HX⟩ := res_cells (block_at2 (w := w) (o := .cells #[a0, a1] t) (o' := .cells #[b0, b1] t')) hb (by simp; omega)
  obtain ⟨y0, y1, y2, y3, HY⟩ := res_cells h1 hb (by simp)
  exact ⟨x0, x1, y0, y1, y2, y3, HY.out, (below_box2 _ _).trans (hb.mono (by simp; omega)), HX.out⟩

/-- Below, behind the result's two stores. -/
theorem below_res {w w2 : World} (h : Below w.heap.size w w2) (v0 v1 : Value) : Below w.heap.size w ((w2.setCell ⟨w.heap.size + 1, 0, none⟩ v0).setCell ⟨w.heap.size + 1, 1, none⟩ v1) :=
  (h.setCell (p := ⟨w.heap.size + 1, 0, none⟩) (show w.heap.size ≤ w.heap.size + 1 by omega) _).setCell (p := ⟨w.heap.size + 1, 1, none⟩) (show w.heap.size ≤ w.heap.size + 1 by omega) _

theorem numS_tw {w : World} {base p : Nat} {l : List ByteArray} (x : ByteArray) (hx : x.size ≤ maxLen) (h : TwS w base p l) :
    Calls Try.prog 17 #[.pointer (some ⟨p, 0, none⟩), .string x] w fun e w' => e = .returned (.int .i64 (num l x : Nat)) ∧ w' = w := by
  obtain ⟨iv, B, hp, hbp, hbB, ho, ht⟩ := h
  exact numS_any p B l x w hx (by unfold World.cell?; rw [hp]; rfl) ht

/-- The program's reading of a ledger that lies boxed, a result behind it: where it has no fault. -/
theorem read_ok {w : World} {n m tc gc : Nat} {ta ga : Option Addr} {ss : List ByteArray} {gs : List (Int × Int)} {b0 b1 : Value} {t' : TypeId} (hf : Fine ss gs) (h : LedAt w ta n ga m ss gs) (h0 : 0 = flt ss gs) :
    Calls Try.prog 15 #[.agg #[.slice ta n tc, .slice ga m gc]] ((w.alloc (.cells #[.slice ta n tc, .slice ga m gc] 27)).alloc (.cells #[b0, b1] t')) fun e w' => ∃ p q top, e = .returned (.tuple #[.agg #[.pointer (some ⟨p, 0, none⟩), .pointer (some ⟨q, 0, none⟩)], .int .i64 0]) ∧
      Below ((w.alloc (.cells #[.slice ta n tc, .slice ga m gc] 27)).alloc (.cells #[b0, b1] t')).heap.size ((w.alloc (.cells #[.slice ta n tc, .slice ga m gc] 27)).alloc (.cells #[b0, b1] t')) w' ∧
      Hid (TwS w' (w.heap.size + 2) p ss ∧ TopS w' p top ∧ TwG w' top q gs ∧ w.heap.size + 2 ≤ top) := by
  have hb : Below w.heap.size w ((w.alloc (.cells #[.slice ta n tc, .slice ga m gc] 27)).alloc (.cells #[b0, b1] t')) := below_box2 _ _
  refine (readLedger_any n m tc gc ta ga ss gs _ hf.s hf.g (h.s.below hb (Nat.le_refl _)) (h.g.below hb (Nat.le_refl _))).mono fun e w' hr => ?_
  rcases hr with ⟨hbl, ⟨_, p, q, top, he, h1, h2, h3, h4⟩ | ⟨hn, _⟩⟩
  · have hs : ((w.alloc (.cells #[.slice ta n tc, .slice ga m gc] 27)).alloc (.cells #[b0, b1] t')).heap.size = w.heap.size + 2 := by simp
    rw [hs] at h1 h4
    exact ⟨p, q, top, he, hbl, h1, h2, h3, h4⟩
  · exact absurd h0.symm hn

/-- .. and where it has one. -/
theorem read_bad {w : World} {n m tc gc : Nat} {ta ga : Option Addr} {ss : List ByteArray} {gs : List (Int × Int)} {b0 b1 : Value} {t' : TypeId} {c : Int} (hf : Fine ss gs) (h : LedAt w ta n ga m ss gs) (hc : c = flt ss gs) (h0 : ¬ c = 0) :
    Calls Try.prog 15 #[.agg #[.slice ta n tc, .slice ga m gc]] ((w.alloc (.cells #[.slice ta n tc, .slice ga m gc] 27)).alloc (.cells #[b0, b1] t')) fun e w' => e = .returned (.tuple #[.agg #[.pointer none, .pointer none], .int .i64 c]) ∧
      Below ((w.alloc (.cells #[.slice ta n tc, .slice ga m gc] 27)).alloc (.cells #[b0, b1] t')).heap.size ((w.alloc (.cells #[.slice ta n tc, .slice ga m gc] 27)).alloc (.cells #[b0, b1] t')) w' := by
  have hb : Below w.heap.size w ((w.alloc (.cells #[.slice ta n tc, .slice ga m gc] 27)).alloc (.cells #[b0, b1] t')) := below_box2 _ _
  refine (readLedger_any n m tc gc ta ga ss gs _ hf.s hf.g (h.s.below hb (Nat.le_refl _)) (h.g.below hb (Nat.le_refl _))).mono fun e w' hr => ?_
  rcases hr with ⟨hbl, ⟨hn, _⟩ | ⟨_, he⟩⟩
  · exact absurd (hc.trans hn) h0
  · exact ⟨by rw [hc]; exact he, hbl⟩

/-- The blocks of before behind one block more. -/
theorem box2_more {w w2 : World} {b0 b1 : Value} {t' : TypeId} {o : Obj} (h : w2.heap[w.heap.size + 1]? = some (.cells #[b0, b1] t' (0, 0)) ∧ Below w.heap.size w w2) :
    (w2.alloc o).cell? ⟨w.heap.size + 1, 0, none⟩ = some b0 ∧ (w2.alloc o).cell? ⟨w.heap.size + 1, 1, none⟩ = some b1 ∧ (w2.alloc o).frozen? ⟨w.heap.size + 1, 0, none⟩ = false ∧ (w2.alloc o).frozen? ⟨w.heap.size + 1, 1, none⟩ = false ∧
      Hid ((w2.alloc o).heap[w.heap.size + 1]? = some (.cells #[b0, b1] t' (0, 0)) ∧ Below w.heap.size w (w2.alloc o)) := by
  obtain ⟨x0, x1, x2, x3, HX⟩ := res_cells h.1 (below_box o) (lt_of_block h.1)
  exact ⟨x0, x1, x2, x3, HX.out, h.2.alloc h.2.size _⟩

set_option maxHeartbeats 400000 in
theorem iIdOf_any (n m tc gc : Nat) (ta ga : Option Addr) (ss : List ByteArray) (gs : List (Int × Int)) (x : ByteArray) (w : World) (hx : x.size ≤ maxLen) (hf : Fine ss gs) (h : LedAt w ta n ga m ss gs) :
    Calls Try.prog 8 #[.agg #[.slice ta n tc, .slice ga m gc], .string x] w fun e w' => e = .returned (.agg #[.int .i64 (idR ss gs x).1, .int .i64 (idR ss gs x).2]) ∧ Below w.heap.size w w' := by
  obtain ⟨c, hc⟩ : ∃ c, c = flt ss gs := ⟨_, rfl⟩
  have HX : Hid (x.size ≤ maxLen) := hx
  clear hx
  by_cases hcz : c = 0
  · subst hcz
    have hrd := read_ok (tc := tc) (gc := gc) (b0 := .int .i64 0) (b1 := .int .i64 0) (t' := 34) hf h hc
    clear h hf
    obtain ⟨k, hk⟩ : ∃ k, k = num ss x := ⟨_, rfl⟩
    by_cases hk0 : k = 0
    · have hr := idR_none hc (x := x) (hk ▸ hk0)
      rw [hr]
      have HK : Hid (num ss x = 0) := hk ▸ hk0
      clear hr hc hk hk0
      go_enter Try.func8, Try.ntmps8
      go_wp2_with (first
        | (go_at_call 15; refine hrd.mono ?_; rintro e w2 ⟨p, q, top, rfl, hb2, HT⟩; obtain ⟨p0, p1, q0, q1, q2, q3, HB⟩ := box2_facts hb2; obtain ⟨r0, r1, r2, r3, HR⟩ := box2_more (o := .cells #[.pointer (some ⟨p, 0, none⟩), .pointer (some ⟨q, 0, none⟩)] 48) ⟨HB.out.1, HB.out.2.1⟩; have hat := numS_tw x HX.out (HT.out.1.below (below_box (.cells #[.pointer (some ⟨p, 0, none⟩), .pointer (some ⟨q, 0, none⟩)] 48))); rw [HK.out] at hat; clear p0 p1 q0 q1 q2 q3 hb2)
        | (go_at_call 17; refine hat.mono ?_; rintro e w3 ⟨rfl, hw⟩; subst hw))
      obtain ⟨s0, s1, s2⟩ := two_set HR.out.1 (.int .i64 4) (.int .i64 0)
      exact bodyPost_ret (v := .agg #[.int .i64 4, .int .i64 0]) (by simp [results, Try.results8, go_sem, s0, s1]) rfl ⟨rfl, below_res HR.out.2 _ _⟩
    · have hr := idR_ok hc hk hk0
      rw [hr]
      have hki : (k : Int) ≠ 0 := by omega
      have HK : Hid (num ss x = k) := hk.symm
      clear hr hc hk hk0
      go_enter Try.func8, Try.ntmps8
      go_wp2_with (first
        | (go_at_call 15; refine hrd.mono ?_; rintro e w2 ⟨p, q, top, rfl, hb2, HT⟩; obtain ⟨p0, p1, q0, q1, q2, q3, HB⟩ := box2_facts hb2; obtain ⟨r0, r1, r2, r3, HR⟩ := box2_more (o := .cells #[.pointer (some ⟨p, 0, none⟩), .pointer (some ⟨q, 0, none⟩)] 48) ⟨HB.out.1, HB.out.2.1⟩; have hat := numS_tw x HX.out (HT.out.1.below (below_box (.cells #[.pointer (some ⟨p, 0, none⟩), .pointer (some ⟨q, 0, none⟩)] 48))); rw [HK.out] at hat; clear p0 p1 q0 q1 q2 q3 hb2)
        | (go_at_call 17; refine hat.mono ?_; rintro e w3 ⟨rfl, hw⟩; subst hw))
      obtain ⟨s0, s1, s2⟩ := two_set HR.out.1 (.int .i64 0) (.int .i64 k)
      exact bodyPost_ret (v := .agg #[.int .i64 0, .int .i64 k]) (by simp [results, Try.results8, go_sem, s0, s1]) rfl ⟨rfl, below_res HR.out.2 _ _⟩
  · have hrd := read_bad (tc := tc) (gc := gc) (b0 := .int .i64 0) (b1 := .int .i64 0) (t' := 34) hf h hc hcz
    rw [idR_bad hc hcz]
    clear hc h hf
    go_enter Try.func8, Try.ntmps8
    go_wp2_with (first
      | (go_at_call 15; refine hrd.mono ?_; rintro e w2 ⟨rfl, hb2⟩; obtain ⟨p0, p1, q0, q1, q2, q3, HB⟩ := box2_facts hb2; obtain ⟨r0, r1, r2, r3, HR⟩ := box2_more (o := .cells #[.pointer none, .pointer none] 48) ⟨HB.out.1, HB.out.2.1⟩; clear p0 p1 q0 q1 q2 q3 hb2))
    obtain ⟨s0, s1, s2⟩ := two_set HR.out.1 (.int .i64 c) (.int .i64 0)
    exact bodyPost_ret (v := .agg #[.int .i64 c, .int .i64 0]) (by simp [results, Try.results8, go_sem, s0, s1]) rfl ⟨rfl, below_res HR.out.2 _ _⟩

end Go.Proofs.Ytbpfbnmnpilgkaa

namespace Go.Proofs.Ytbpfbnmnpilgkaa
open Go.RowKit Go.Maps Go.WideMaps

theorem keepb {v v' : World} {b : Nat} {o : Obj} (h : v.heap[b]? = some o) (hb : Below v.heap.size v v') : Hid (v'.heap[b]? = some o) := (hb.block b (lt_of_block h)).trans h
theorem cells2 {v : World} {b : Nat} {a0 a1 : Value} {t : TypeId} (h : v.heap[b]? = some (.cells #[a0, a1] t (0, 0))) : v.cell? ⟨b, 0, none⟩ = some a0 ∧ v.cell? ⟨b, 1, none⟩ = some a1 := ⟨by unfold World.cell?; rw [h]; rfl, by unfold World.cell?; rw [h]; rfl⟩

end Go.Proofs.Ytbpfbnmnpilgkaa
